package span

import (
	"cmp"
	"math"
	"math/big"
	"slices"
	"testing"

	"mapsheets/api"
)

// ranges returns the list whose bounds are l.
func ranges(l ...int) []api.Range {
	var out []api.Range
	for pair := range slices.Chunk(l, 2) {
		out = append(out, api.Range{Lo: pair[0], Hi: pair[1]})
	}
	return out
}

// rangesOf are all ranges between the bounds, in both directions, with the empty ones.
func rangesOf(bounds ...int) []api.Range {
	var out []api.Range
	for _, lo := range bounds {
		for _, hi := range bounds {
			out = append(out, api.Range{Lo: lo, Hi: hi})
		}
	}
	return out
}

// listsOf are all lists of at most longest of the ranges between the bounds.
func listsOf(longest int, bounds ...int) [][]api.Range {
	all := [][]api.Range{nil}
	var grow func(l []api.Range)
	grow = func(l []api.Range) {
		if len(l) == longest {
			return
		}
		for _, r := range rangesOf(bounds...) {
			longer := append(slices.Clone(l), r)
			all = append(all, longer)
			grow(longer)
		}
	}
	grow(nil)
	return all
}

// row returns count ranges of the same width, whose lower bounds are step apart.
func row(count, first, width, step int) []api.Range {
	var out []api.Range
	for i := range count {
		out = append(out, api.Range{Lo: first + i*step, Hi: first + i*step + width})
	}
	return out
}

// noise returns ranges without a pattern, of which some are empty, always the same ones for a size and a seed.
func noise(size, most, widest int, seed uint32) []api.Range {
	var out []api.Range
	for range size {
		seed = seed*1664525 + 1013904223
		lo := int(seed>>8) % (most + 1)
		seed = seed*1664525 + 1013904223
		out = append(out, api.Range{Lo: lo, Hi: lo + int(seed>>8)%(widest+1) - widest/8})
	}
	return out
}

func turned(l []api.Range) []api.Range {
	out := slices.Clone(l)
	slices.Reverse(out)
	return out
}

// longLists are ascending and descending ones, with gaps, adjoining, overlapping, nested, and without an order.
func longLists() [][]api.Range {
	apart := row(60, -90, 2, 3)
	nested := row(60, 0, 0, 1)
	for i := range nested {
		nested[i].Hi = 150 - nested[i].Lo
	}
	return [][]api.Range{
		apart, turned(apart), row(60, 0, 3, 3), turned(row(60, 0, 3, 3)), row(60, 10, 7, 2), nested, turned(nested),
		row(30, 20, 0, 1), row(30, 20, -4, 2), slices.Concat(apart, apart), slices.Concat(row(40, 1, 1, 4), row(9, -5, 11, 17)),
		noise(20, 100, 8, 1), noise(60, 200, 4, 2), noise(90, 1000, 12, 3), noise(40, 1<<24-1, 1<<20, 4),
	}
}

// extremes are bounds near the ends of the ints, where a difference of bounds is not an int.
func extremes() []int {
	return []int{math.MinInt, math.MinInt + 1, -1, 0, 1, math.MaxInt - 1, math.MaxInt}
}

// samples are short lists of small and of extreme bounds, and the long lists.
func samples() [][]api.Range {
	l := slices.Concat(listsOf(2, 0, 1, 2, 3), listsOf(1, extremes()...), longLists())
	return append(l, []api.Range{}, ranges(math.MinInt, -1, 0, math.MaxInt), ranges(5, math.MaxInt, math.MinInt, -5), ranges(math.MinInt, 7, 2, math.MaxInt))
}

// boundsOf are the bounds of all lists, ascending.
func boundsOf(lists ...[]api.Range) []int {
	var bounds []int
	for _, r := range slices.Concat(lists...) {
		bounds = append(bounds, r.Lo, r.Hi)
	}
	slices.Sort(bounds)
	return slices.Compact(bounds)
}

// contains is the chapter's definition of the integers of a list.
func contains(l []api.Range, n int) bool {
	return slices.ContainsFunc(l, func(r api.Range) bool { return r.Lo <= n && n < r.Hi })
}

// wanted returns the valid list of the integers that belongs admits, by the definitions: from each bound to the next one, all integers are in the same ones of both lists.
func wanted(a, b []api.Range, belongs func(inA, inB bool) bool) []api.Range {
	var out []api.Range
	bounds := boundsOf(a, b)
	for i, lo := range bounds[:max(len(bounds)-1, 0)] {
		if !belongs(contains(a, lo), contains(b, lo)) {
			continue
		}
		if len(out) > 0 && out[len(out)-1].Hi == lo {
			out[len(out)-1].Hi = bounds[i+1]
		} else {
			out = append(out, api.Range{Lo: lo, Hi: bounds[i+1]})
		}
	}
	return out
}

func inEither(inA, inB bool) bool { return inA || inB }
func inBoth(inA, inB bool) bool   { return inA && inB }
func inFirst(inA, inB bool) bool  { return inA && !inB }

// start returns the first ranges of l, for messages.
func start(l []api.Range) []api.Range { return l[:min(len(l), 8)] }

func expectList(t *testing.T, name string, got, want []api.Range) {
	t.Helper()
	if !slices.Equal(got, want) {
		t.Errorf("%s: %d ranges from %v on, want %d from %v on", name, len(got), start(got), len(want), start(want))
	}
}

// P5.1
func TestValid(t *testing.T) {
	for _, c := range []struct {
		l    []api.Range
		want bool
	}{
		{nil, true},
		{[]api.Range{}, true},
		{ranges(0, 1), true},
		{ranges(-9, 4), true},
		{ranges(0, 0), false},
		{ranges(5, 5), false},
		{ranges(7, 2), false},
		{ranges(-1, -2), false},
		{ranges(1, 3, 4, 6), true},
		{ranges(1, 3, 3, 6), false},
		{ranges(1, 3, 2, 6), false},
		{ranges(1, 3, 1, 3), false},
		{ranges(1, 9, 2, 3), false},
		{ranges(4, 6, 1, 3), false},
		{ranges(1, 3, 5, 5), false},
		{ranges(1, 3, 8, 7), false},
		{ranges(0, 0, 1, 3), false},
		{ranges(9, 0, 10, 13), false},
		{ranges(-3, -2, -1, 0, 1, 2), true},
		{ranges(-3, -2, -1, 0, 0, 2), false},
		{ranges(-3, -2, 1, 0, 1, 2), false},
		{ranges(1, 2, 9, 10, 4, 5), false},
		{ranges(math.MinInt, math.MaxInt), true},
		{ranges(math.MinInt, -1, 0, math.MaxInt), true},
		{ranges(math.MinInt, 0, 0, math.MaxInt), false},
		{ranges(math.MinInt, math.MinInt), false},
		{ranges(math.MaxInt, math.MaxInt), false},
		{ranges(math.MaxInt, math.MinInt), false},
		{ranges(math.MaxInt-1, math.MaxInt, math.MinInt, math.MinInt+1), false},
		{ranges(math.MinInt, math.MaxInt, math.MinInt, math.MaxInt), false},
	} {
		if ok := Valid(c.l); ok != c.want {
			t.Errorf("Valid(%v) = %v", c.l, ok)
		}
	}
}

// P5.1: exactly the valid list of the integers of a list is valid.
func TestValidByDefinition(t *testing.T) {
	for _, l := range slices.Concat(samples(), listsOf(3, 0, 1, 2, 3), listsOf(2, extremes()...)) {
		if ok := Valid(l); ok != slices.Equal(l, wanted(l, nil, inEither)) {
			t.Errorf("Valid of %d ranges from %v on is %v", len(l), start(l), ok)
		}
	}
}

// P5.1: a single wrong range anywhere in a long list.
func TestValidSeesEveryRange(t *testing.T) {
	l := row(50, -40, 2, 4)
	for i := range l {
		was := l[i]
		wrong := []api.Range{{Lo: was.Lo, Hi: was.Lo}, {Lo: was.Hi, Hi: was.Lo}}
		if i > 0 {
			wrong = append(wrong, api.Range{Lo: l[i-1].Hi, Hi: was.Hi}, api.Range{Lo: l[i-1].Hi - 1, Hi: was.Hi}, l[i-1])
		}
		for _, r := range wrong {
			l[i] = r
			if Valid(l) {
				t.Errorf("Valid with %v in the place %d", r, i)
			}
		}
		l[i] = was
	}
	if !Valid(l) {
		t.Error("Valid of the list with all its ranges is false")
	}
}

// P5.1
func TestNormal(t *testing.T) {
	for _, c := range []struct{ l, want []api.Range }{
		{nil, nil},
		{[]api.Range{}, nil},
		{ranges(5, 5), nil},
		{ranges(5, 5, 7, 2), nil},
		{ranges(4, 6), ranges(4, 6)},
		{ranges(4, 6, 1, 3, 3, 4, 9, 9), ranges(1, 6)},
		{ranges(1, 3, 4, 6), ranges(1, 3, 4, 6)},
		{ranges(4, 6, 1, 3), ranges(1, 3, 4, 6)},
		{ranges(1, 3, 3, 6), ranges(1, 6)},
		{ranges(3, 6, 1, 3), ranges(1, 6)},
		{ranges(1, 4, 3, 5), ranges(1, 5)},
		{ranges(1, 9, 2, 3, 4, 5, 8, 9), ranges(1, 9)},
		{ranges(2, 3, 1, 9), ranges(1, 9)},
		{ranges(1, 3, 1, 8, 1, 2), ranges(1, 8)},
		{ranges(1, 9, 2, 3, 10, 11), ranges(1, 9, 10, 11)},
		{ranges(1, 2, 2, 2, 3, 4), ranges(1, 2, 3, 4)},
		{ranges(1, 2, 3, 0, 3, 4), ranges(1, 2, 3, 4)},
		{ranges(9, 1, 4, 5), ranges(4, 5)},
		{ranges(-5, -3, -4, 0, 2, 2), ranges(-5, 0)},
		{ranges(math.MinInt, math.MaxInt), ranges(math.MinInt, math.MaxInt)},
		{ranges(0, math.MaxInt, math.MinInt, 0), ranges(math.MinInt, math.MaxInt)},
		{ranges(0, math.MaxInt, math.MinInt, -1), ranges(math.MinInt, -1, 0, math.MaxInt)},
		{ranges(math.MaxInt, math.MinInt, math.MaxInt, math.MaxInt), nil},
	} {
		if out := Normal(c.l); !slices.Equal(out, c.want) {
			t.Errorf("Normal(%v) = %v, want %v", c.l, out, c.want)
		}
	}
	for _, l := range slices.Concat(samples(), listsOf(3, 0, 1, 2, 3), listsOf(2, extremes()...)) {
		expectList(t, "Normal", Normal(l), wanted(l, nil, inEither))
	}
}

// P5.1
func TestHas(t *testing.T) {
	for _, c := range []struct {
		l    []api.Range
		n    int
		want bool
	}{
		{nil, 0, false},
		{[]api.Range{}, 0, false},
		{ranges(1, 3), 0, false},
		{ranges(1, 3), 1, true},
		{ranges(1, 3), 2, true},
		{ranges(1, 3), 3, false},
		{ranges(0, 0), 0, false},
		{ranges(3, 1), 2, false},
		{ranges(3, 1), 1, false},
		{ranges(3, 1), 3, false},
		{ranges(5, 7, 1, 3), 2, true},
		{ranges(5, 7, 1, 3), 6, true},
		{ranges(5, 7, 1, 3), 4, false},
		{ranges(1, 9, 2, 3), 5, true},
		{ranges(9, 9, 4, 2, 8, 10), 9, true},
		{ranges(math.MinInt, math.MaxInt), math.MinInt, true},
		{ranges(math.MinInt, math.MaxInt), math.MaxInt - 1, true},
		{ranges(math.MinInt, math.MaxInt), math.MaxInt, false},
		{ranges(math.MaxInt, math.MaxInt), math.MaxInt, false},
		{ranges(math.MinInt, math.MinInt), math.MinInt, false},
		{ranges(math.MaxInt, math.MinInt), 0, false},
	} {
		if ok := Has(c.l, c.n); ok != c.want {
			t.Errorf("Has(%v, %d) = %v", c.l, c.n, ok)
		}
	}
}

// near are the integers beside the bounds of l, and the extreme ones. (At the ends of the ints they wrap around, which gives other integers to ask for.)
func near(l []api.Range) []int {
	numbers := extremes()
	for _, n := range boundsOf(l) {
		numbers = append(numbers, n-1, n, n+1)
	}
	return numbers
}

// P5.1
func TestHasByDefinition(t *testing.T) {
	for _, l := range samples() {
		for _, n := range near(l) {
			if ok := Has(l, n); ok != contains(l, n) {
				t.Errorf("Has of %d ranges from %v on, and %d, is %v", len(l), start(l), n, ok)
			}
		}
	}
}

// P5.1
func TestTotal(t *testing.T) {
	for _, c := range []struct {
		l    []api.Range
		want int
	}{
		{nil, 0},
		{[]api.Range{}, 0},
		{ranges(4, 4), 0},
		{ranges(7, 2), 0},
		{ranges(1, 4), 3},
		{ranges(1, 4, 3, 5), 4},
		{ranges(1, 4, 1, 4, 2, 3), 3},
		{ranges(6, 8, 1, 4, 9, 0), 5},
		{ranges(-3, 2), 5},
		{ranges(math.MinInt, math.MaxInt), 0},
		{ranges(math.MinInt, 0), 0},
		{ranges(0, math.MaxInt), math.MaxInt},
		{ranges(-1, math.MaxInt), 0},
		{ranges(math.MinInt, -1), math.MaxInt},
		{ranges(math.MinInt, -2, 5, 6), math.MaxInt},
		{ranges(math.MinInt, -2, 5, 7), 0},
		{ranges(math.MinInt, -1, 0, 1), 0},
		{ranges(math.MinInt, -1, 0, math.MaxInt), 0},
		{ranges(math.MinInt, math.MinInt+1, math.MaxInt-1, math.MaxInt), 2},
		{ranges(math.MaxInt, math.MinInt), 0},
		{ranges(0, math.MaxInt, 0, math.MaxInt), math.MaxInt},
	} {
		if n := Total(c.l); n != c.want {
			t.Errorf("Total(%v) = %d, want %d", c.l, n, c.want)
		}
	}
}

// P5.1
func TestTotalByDefinition(t *testing.T) {
	for _, l := range slices.Concat(samples(), listsOf(3, 0, 1, 2, 3), listsOf(2, extremes()...)) {
		sum := new(big.Int)
		for _, r := range wanted(l, nil, inEither) {
			sum.Add(sum, new(big.Int).Sub(big.NewInt(int64(r.Hi)), big.NewInt(int64(r.Lo))))
		}
		want := 0
		if sum.IsInt64() {
			want = int(sum.Int64())
		}
		if n := Total(l); n != want {
			t.Errorf("Total of %d ranges from %v on is %d, want %d", len(l), start(l), n, want)
		}
	}
}

// P5.2
func TestOperations(t *testing.T) {
	for _, c := range []struct{ a, b, union, inter, minus []api.Range }{
		{nil, nil, nil, nil, nil},
		{[]api.Range{}, ranges(3, 3), nil, nil, nil},
		{ranges(5, 2), ranges(1, 9), ranges(1, 9), nil, nil},
		{ranges(1, 9), ranges(5, 2), ranges(1, 9), nil, ranges(1, 9)},
		{nil, ranges(7, 8), ranges(7, 8), nil, nil},
		{ranges(7, 8), nil, ranges(7, 8), nil, ranges(7, 8)},
		{ranges(1, 6), ranges(3, 4, 5, 9), ranges(1, 9), ranges(3, 4, 5, 6), ranges(1, 3, 4, 5)},
		{ranges(3, 4, 5, 9), ranges(1, 6), ranges(1, 9), ranges(3, 4, 5, 6), ranges(6, 9)},
		{ranges(1, 3), ranges(3, 5), ranges(1, 5), nil, ranges(1, 3)},
		{ranges(3, 5), ranges(1, 3), ranges(1, 5), nil, ranges(3, 5)},
		{ranges(1, 3), ranges(4, 5), ranges(1, 3, 4, 5), nil, ranges(1, 3)},
		{ranges(1, 6), ranges(1, 6), ranges(1, 6), ranges(1, 6), nil},
		{ranges(1, 6), ranges(1, 4), ranges(1, 6), ranges(1, 4), ranges(4, 6)},
		{ranges(1, 6), ranges(4, 6), ranges(1, 6), ranges(4, 6), ranges(1, 4)},
		{ranges(1, 3, 4, 6, 7, 9), ranges(2, 8), ranges(1, 9), ranges(2, 3, 4, 6, 7, 8), ranges(1, 2, 8, 9)},
		{ranges(2, 8), ranges(1, 3, 4, 6, 7, 9), ranges(1, 9), ranges(2, 3, 4, 6, 7, 8), ranges(3, 4, 6, 7)},
		{ranges(5, 9, 1, 6), ranges(8, 2, 2, 8), ranges(1, 9), ranges(2, 8), ranges(1, 2, 8, 9)},
		{ranges(1, 4, 4, 7), ranges(6, 8, 3, 6), ranges(1, 8), ranges(3, 7), ranges(1, 3)},
		{ranges(9, 10, 0, 1), ranges(4, 5), ranges(0, 1, 4, 5, 9, 10), nil, ranges(0, 1, 9, 10)},
		{
			ranges(math.MinInt, math.MaxInt), ranges(-1, 1),
			ranges(math.MinInt, math.MaxInt), ranges(-1, 1), ranges(math.MinInt, -1, 1, math.MaxInt),
		},
		{
			ranges(math.MinInt, 0), ranges(0, math.MaxInt),
			ranges(math.MinInt, math.MaxInt), nil, ranges(math.MinInt, 0),
		},
	} {
		u, i, m := Union(c.a, c.b), Inter(c.a, c.b), Minus(c.a, c.b)
		if !slices.Equal(u, c.union) || !slices.Equal(i, c.inter) || !slices.Equal(m, c.minus) {
			t.Errorf("%v and %v: %v, %v, %v, want %v, %v, %v", c.a, c.b, u, i, m, c.union, c.inter, c.minus)
		}
	}
}

// P5.2
func TestOperationsByDefinition(t *testing.T) {
	for _, a := range samples() {
		for _, b := range samples() {
			expectList(t, "Union", Union(a, b), wanted(a, b, inEither))
			expectList(t, "Inter", Inter(a, b), wanted(a, b, inBoth))
			expectList(t, "Minus", Minus(a, b), wanted(a, b, inFirst))
		}
	}
}

// pairs are the lists of the promises about two or three lists.
func pairs() [][]api.Range {
	return slices.Concat(listsOf(1, 0, 1, 2, 3), longLists(), listsOf(1, math.MinInt, 0, math.MaxInt))
}

// P5.3
func TestMembers(t *testing.T) {
	for _, a := range pairs() {
		for _, b := range pairs() {
			union, inter, minus := Union(a, b), Inter(a, b), Minus(a, b)
			for _, n := range near(slices.Concat(a, b)) {
				inA, inB := Has(a, n), Has(b, n)
				if Has(union, n) != (inA || inB) || Has(inter, n) != (inA && inB) || Has(minus, n) != (inA && !inB) {
					t.Errorf("%d, and %d ranges from %v on and %d from %v on", n, len(a), start(a), len(b), start(b))
				}
			}
		}
	}
}

// P5.4
func TestResultsAreValid(t *testing.T) {
	for _, a := range samples() {
		list := Normal(a)
		if !Valid(list) {
			t.Errorf("Normal of %d ranges from %v on is not valid", len(a), start(a))
		}
		if Valid(a) {
			expectList(t, "Normal of a valid list", list, a)
		}
		expectList(t, "Normal of Normal", Normal(list), list)
		for _, b := range samples() {
			if !Valid(Union(a, b)) || !Valid(Inter(a, b)) || !Valid(Minus(a, b)) {
				t.Errorf("a result of %d ranges from %v on and %d from %v on is not valid", len(a), start(a), len(b), start(b))
			}
		}
	}
}

// P5.4
func TestNormalTellsSetsApart(t *testing.T) {
	l := listsOf(2, 0, 1, 2, 3)
	for _, a := range l {
		for _, b := range l {
			same := true
			for n := range 4 {
				same = same && contains(a, n) == contains(b, n)
			}
			if slices.Equal(Normal(a), Normal(b)) != same {
				t.Errorf("Normal of %v is %v, and of %v is %v", a, Normal(a), b, Normal(b))
			}
		}
	}
}

// divided returns the integers of l in halves, the upper ones first, with empty ranges between them.
func divided(l []api.Range) []api.Range {
	var out []api.Range
	for _, r := range l {
		if r.Lo < r.Hi {
			middle := r.Lo/2 + r.Hi/2
			out = append(out, api.Range{Lo: middle, Hi: r.Hi}, api.Range{Lo: r.Hi, Hi: r.Lo}, api.Range{Lo: r.Lo, Hi: middle})
		}
	}
	return out
}

// P5.4: lists of the same integers, in other orders and in other ranges.
func TestNormalIgnoresForm(t *testing.T) {
	for _, l := range samples() {
		want := Normal(l)
		expectList(t, "Normal of a reversed list", Normal(turned(l)), want)
		expectList(t, "Normal of divided ranges", Normal(divided(l)), want)
		rotated := slices.Clone(l)
		for range min(len(l), 20) {
			rotated = append(rotated[1:], rotated[0])
			expectList(t, "Normal of a rotated list", Normal(rotated), want)
		}
	}
}

// P5.5
func TestAlgebra(t *testing.T) {
	for _, l := range [][][]api.Range{pairs(), listsOf(1, 0, 1, 2, 3, 4), listsOf(1, math.MinInt, -1, 0, 1, math.MaxInt)} {
		for _, a := range l {
			for _, b := range l {
				for _, c := range l {
					expectList(t, "Inter distributes over Union", Inter(a, Union(b, c)), Union(Inter(a, b), Inter(a, c)))
					expectList(t, "Minus of a Union", Minus(a, Union(b, c)), Minus(Minus(a, b), c))
				}
			}
		}
	}
}

// P5.6
func TestTotalsAddUp(t *testing.T) {
	l := slices.Concat(listsOf(2, 0, 1, 2, 3), longLists(), listsOf(2, -1<<40, 1-1<<40, 0, 1<<40))
	for _, a := range l {
		for _, b := range l {
			together, apart := Total(Union(a, b))+Total(Inter(a, b)), Total(a)+Total(b)
			if together != apart {
				t.Errorf("%d and %d ranges from %v and %v on: %d, want %d", len(a), len(b), start(a), start(b), together, apart)
			}
		}
	}
}

// P5.6: the greatest total of these bounds is not 0.
func TestTotalOfLargeBounds(t *testing.T) {
	if n := Total(ranges(-1<<40, 1<<40)); n != 1<<41 {
		t.Errorf("Total = %d, want 2^41", n)
	}
}

// moved returns l with by added to all bounds.
func moved(l []api.Range, by int) []api.Range {
	out := slices.Clone(l)
	for i := range out {
		out[i].Lo += by
		out[i].Hi += by
	}
	return out
}

// P5.7
func TestMovedLists(t *testing.T) {
	l := slices.Concat(listsOf(1, 0, 1, 2, 3), longLists())
	for _, by := range []int{-1, 1, -1000, 1 << 40, math.MinInt + 1<<26, math.MaxInt - 1<<26} {
		for _, a := range l {
			for _, b := range l {
				expectMoved(t, a, b, by)
			}
		}
	}
}

func expectMoved(t *testing.T, a, b []api.Range, by int) {
	t.Helper()
	expectList(t, "Normal of a moved list", Normal(moved(a, by)), moved(Normal(a), by))
	expectList(t, "Union of moved lists", Union(moved(a, by), moved(b, by)), moved(Union(a, b), by))
	expectList(t, "Inter of moved lists", Inter(moved(a, by), moved(b, by)), moved(Inter(a, b), by))
	expectList(t, "Minus of moved lists", Minus(moved(a, by), moved(b, by)), moved(Minus(a, b), by))
}

// P5.7: up to the bounds at which the results end at the extreme ints.
func TestMovedToTheEnds(t *testing.T) {
	l := listsOf(2, 0, 1, 2, 3)
	for _, a := range l {
		for _, b := range l {
			expectMoved(t, a, b, math.MinInt)
			expectMoved(t, a, b, math.MaxInt-3)
		}
	}
}

// P5.1, P5.2: the arguments and the memory behind them stay as they are, and the results share none with them.
func TestMemoryIsNew(t *testing.T) {
	before := slices.Concat(ranges(1, 3, 5, 8, 10, 11, 7, 12, 20, 18, 2, 4, 4, 4, 9, 10, 8, 9, 0, 1, -5, 30, 6, 7), row(4, 40, 2, 5))
	for name, f := range map[string]func(a, b []api.Range) []api.Range{
		"Normal": func(a, b []api.Range) []api.Range { return Normal(a) },
		"Union":  Union,
		"Inter":  Inter,
		"Minus":  Minus,
	} {
		for _, cut := range [][4]int{{0, 3, 3, 6}, {3, 6, 0, 3}, {0, 8, 4, 12}, {0, 8, 0, 8}, {0, 0, 0, 4}, {0, 3, 4, 4}, {2, 2, 2, 2}, {0, 3, 10, 11}, {10, 11, 12, 16}} {
			expectOwnMemory(t, name, f, slices.Clone(before), cut)
		}
	}
}

// expectOwnMemory calls f with the two lists of memory that cut delimits.
func expectOwnMemory(t *testing.T, name string, f func(a, b []api.Range) []api.Range, memory []api.Range, cut [4]int) {
	t.Helper()
	before := slices.Clone(memory)
	a, b := memory[cut[0]:cut[1]], memory[cut[2]:cut[3]]
	out := f(a, b)
	expectList(t, name+", its arguments", memory, before)
	want := slices.Clone(out)
	copy(memory, moved(before, 100))
	expectList(t, name+", after its arguments have changed", out, want)
	copy(memory, before)
	copy(out[:cap(out)], row(cap(out), 77, 1, 2))
	expectList(t, name+", its arguments after the result has changed", memory, before)
	expectList(t, name+", called again", f(a, b), want)
}

// P5.1: the functions that report leave the list as it is.
func TestListIsLeft(t *testing.T) {
	for _, l := range samples() {
		before := slices.Clone(l)
		Valid(l)
		Has(l, 0)
		Total(l)
		expectList(t, "the list", l, before)
	}
}

// P5.2: the order of the ranges of an argument does not matter.
func TestOperationsIgnoreOrder(t *testing.T) {
	byHi := func(r, s api.Range) int { return cmp.Compare(r.Hi, s.Hi) }
	for _, a := range pairs() {
		for _, b := range pairs() {
			orderedA, turnedB := slices.Clone(a), turned(b)
			slices.SortFunc(orderedA, byHi)
			expectList(t, "Union", Union(orderedA, turnedB), Union(a, b))
			expectList(t, "Inter", Inter(orderedA, turnedB), Inter(a, b))
			expectList(t, "Minus", Minus(orderedA, turnedB), Minus(a, b))
		}
	}
}
