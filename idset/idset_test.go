package idset

import (
	"maps"
	"math"
	"slices"
	"testing"
)

// noise returns integers from 0 to most without a pattern, always the same ones for a size and a seed.
func noise(size, most int, seed uint32) []int {
	l := make([]int, size)
	for i := range l {
		seed = seed*1664525 + 1013904223
		l[i] = int(seed>>8) % (most + 1)
	}
	return l
}

// listsOf are all lists of at most longest of the values.
func listsOf(longest int, values ...int) [][]int {
	l := [][]int{nil}
	for from := 0; len(l[len(l)-1]) < longest; {
		to := len(l)
		for _, shorter := range l[from:to] {
			for _, n := range values {
				l = append(l, append(slices.Clone(shorter), n))
			}
		}
		from = to
	}
	return l
}

// longLists are sorted and reversed ones, with and without repetitions, sparse and dense ones, and the extreme integers.
func longLists() [][]int {
	ascending := make([]int, 300)
	for i := range ascending {
		ascending[i] = 3*i - 400
	}
	descending := slices.Clone(ascending)
	slices.Reverse(descending)
	return [][]int{
		ascending, descending, slices.Concat(ascending, ascending), slices.Concat(ascending[150:], descending),
		make([]int, 500), noise(13, 5, 1), noise(100, 300, 2), noise(300, 300, 3), noise(1000, 100, 4), noise(1000, 1<<24-1, 5),
		{math.MaxInt, math.MinInt}, {math.MinInt, -1, 0, 1, math.MaxInt}, {math.MaxInt - 1, math.MaxInt, math.MinInt + 1, math.MinInt, math.MaxInt},
	}
}

// samples are short lists of the integers near zero and of the extreme ones, and the long lists.
func samples() [][]int {
	l := slices.Concat(listsOf(3, -2, -1, 0, 5), listsOf(2, math.MinInt, math.MinInt+1, 0, math.MaxInt-1, math.MaxInt), longLists())
	return append(l, []int{})
}

func elementsOf(l []int) map[int]bool {
	elements := map[int]bool{}
	for _, n := range l {
		elements[n] = true
	}
	return elements
}

// wanted returns the set of the elements of both lists that belongs admits, by the chapter's definitions.
func wanted(a, b []int, belongs func(inA, inB bool) bool) []int {
	elementsA, elementsB := elementsOf(a), elementsOf(b)
	chosen := elementsOf(nil)
	for _, n := range slices.Concat(a, b) {
		if belongs(elementsA[n], elementsB[n]) {
			chosen[n] = true
		}
	}
	return slices.Sorted(maps.Keys(chosen))
}

func inEither(inA, inB bool) bool { return inA || inB }
func inBoth(inA, inB bool) bool   { return inA && inB }
func inFirst(inA, inB bool) bool  { return inA && !inB }

// start returns the first elements of l, for messages.
func start(l []int) []int { return l[:min(len(l), 8)] }

func expectSet(t *testing.T, name string, got, want []int) {
	t.Helper()
	if !slices.Equal(got, want) {
		t.Errorf("%s: %d elements from %v on, want %d from %v on", name, len(got), start(got), len(want), start(want))
	}
}

// P4.1
func TestValid(t *testing.T) {
	for _, c := range []struct {
		l    []int
		want bool
	}{
		{nil, true},
		{[]int{}, true},
		{[]int{0}, true},
		{[]int{-7}, true},
		{[]int{math.MinInt}, true},
		{[]int{1, 2}, true},
		{[]int{-2, -1}, true},
		{[]int{1, 2, 9}, true},
		{[]int{math.MinInt, math.MinInt + 1, -1, 0, 1, math.MaxInt - 1, math.MaxInt}, true},
		{[]int{1, 1}, false},
		{[]int{0, 0}, false},
		{[]int{2, 1}, false},
		{[]int{-1, -2}, false},
		{[]int{1, 2, 2}, false},
		{[]int{1, 1, 2}, false},
		{[]int{1, 3, 2}, false},
		{[]int{2, 1, 3}, false},
		{[]int{1, 2, 3, 4, 4, 5}, false},
		{[]int{math.MaxInt, math.MinInt}, false},
		{[]int{math.MinInt, math.MinInt}, false},
		{[]int{math.MaxInt, math.MaxInt}, false},
		{[]int{math.MaxInt, -1}, false},
		{[]int{1, math.MinInt}, false},
	} {
		if ok := Valid(c.l); ok != c.want {
			t.Errorf("Valid(%v) = %v", c.l, ok)
		}
	}
}

// P4.1
func TestValidByDefinition(t *testing.T) {
	for _, l := range slices.Concat(samples(), listsOf(6, 1, 2, 3)) {
		set := slices.Sorted(maps.Keys(elementsOf(l)))
		if ok := Valid(l); ok != slices.Equal(l, set) {
			t.Errorf("Valid of %d elements from %v on is %v", len(l), start(l), ok)
		}
	}
}

// P4.1: a single wrong pair anywhere in a long list.
func TestValidSeesEveryPair(t *testing.T) {
	l := make([]int, 100)
	for i := range l {
		l[i] = 2 * i
	}
	for i := 1; i < len(l); i++ {
		was := l[i]
		for _, n := range []int{l[i-1], l[i-1] - 1} {
			l[i] = n
			if Valid(l) {
				t.Errorf("Valid of %v after %v, in the place %d", n, l[i-1], i)
			}
		}
		l[i] = was
	}
	if !Valid(l) {
		t.Error("Valid of the even integers is false")
	}
}

// P4.2
func TestNormal(t *testing.T) {
	for _, c := range []struct{ l, want []int }{
		{nil, nil},
		{[]int{}, nil},
		{[]int{5}, []int{5}},
		{[]int{5, 5}, []int{5}},
		{[]int{0, 0, 0}, []int{0}},
		{[]int{1, 2, 9}, []int{1, 2, 9}},
		{[]int{9, 2, 1}, []int{1, 2, 9}},
		{[]int{3, 1, 3, 2}, []int{1, 2, 3}},
		{[]int{-1, 1, -2, 0, -1}, []int{-2, -1, 0, 1}},
		{[]int{2, math.MinInt, math.MaxInt, 2, math.MinInt}, []int{math.MinInt, 2, math.MaxInt}},
	} {
		if out := Normal(c.l); !slices.Equal(out, c.want) {
			t.Errorf("Normal(%v) = %v, want %v", c.l, out, c.want)
		}
	}
	for _, l := range slices.Concat(samples(), listsOf(5, 1, 2, 3, 4)) {
		expectSet(t, "Normal", Normal(l), slices.Sorted(maps.Keys(elementsOf(l))))
	}
}

// P4.3
func TestHas(t *testing.T) {
	for _, c := range []struct {
		l    []int
		n    int
		want bool
	}{
		{nil, 0, false},
		{[]int{}, 0, false},
		{[]int{0}, 0, true},
		{[]int{1}, 0, false},
		{[]int{3, 1}, 1, true},
		{[]int{3, 1}, 3, true},
		{[]int{3, 1}, 2, false},
		{[]int{2, 2}, 2, true},
		{[]int{5, 4, 3, 2, 1}, 1, true},
		{[]int{5, 4, 3, 2, 1}, 5, true},
		{[]int{1, 9, 2, 8, 3}, 8, true},
		{[]int{1, 9, 2, 8, 3}, 7, false},
		{[]int{1, 2, 3}, 4, false},
		{[]int{1, 2, 3}, 0, false},
		{[]int{1, 2, 3}, -1, false},
		{[]int{math.MaxInt, math.MinInt}, math.MinInt, true},
		{[]int{math.MaxInt, math.MinInt}, math.MaxInt, true},
		{[]int{math.MaxInt, math.MinInt}, -1, false},
	} {
		if ok := Has(c.l, c.n); ok != c.want {
			t.Errorf("Has(%v, %d) = %v", c.l, c.n, ok)
		}
	}
}

// P4.3: each element, wherever it is in whatever order, and the integers beside it.
func TestHasByDefinition(t *testing.T) {
	for _, l := range samples() {
		elements := elementsOf(l)
		for _, element := range l {
			for _, n := range []int{element - 1, element, element + 1} {
				if ok := Has(l, n); ok != elements[n] {
					t.Errorf("Has of %d elements from %v on, and %d, is %v", len(l), start(l), n, ok)
				}
			}
		}
	}
}

// P4.4
func TestOperations(t *testing.T) {
	for _, c := range []struct{ a, b, union, inter, minus []int }{
		{nil, nil, nil, nil, nil},
		{[]int{}, []int{}, nil, nil, nil},
		{nil, []int{7}, []int{7}, nil, nil},
		{[]int{7}, nil, []int{7}, nil, []int{7}},
		{[]int{1, 2, 3}, []int{2, 4}, []int{1, 2, 3, 4}, []int{2}, []int{1, 3}},
		{[]int{2, 4}, []int{1, 2, 3}, []int{1, 2, 3, 4}, []int{2}, []int{4}},
		{[]int{1, 5}, []int{1, 5}, []int{1, 5}, []int{1, 5}, nil},
		{[]int{1, 2}, []int{3, 4}, []int{1, 2, 3, 4}, nil, []int{1, 2}},
		{[]int{3, 4}, []int{1, 2}, []int{1, 2, 3, 4}, nil, []int{3, 4}},
		{[]int{1, 3, 5}, []int{2, 4, 6}, []int{1, 2, 3, 4, 5, 6}, nil, []int{1, 3, 5}},
		{[]int{1, 2, 3, 4}, []int{2, 3}, []int{1, 2, 3, 4}, []int{2, 3}, []int{1, 4}},
		{[]int{2, 3}, []int{1, 2, 3, 4}, []int{1, 2, 3, 4}, []int{2, 3}, nil},
		{[]int{3, 1, 3}, []int{3, 3}, []int{1, 3}, []int{3}, []int{1}},
		{[]int{9, 9, 0, -4}, []int{8, -4, 9, -4}, []int{-4, 0, 8, 9}, []int{-4, 9}, []int{0}},
		{[]int{5, 4, 3}, []int{4}, []int{3, 4, 5}, []int{4}, []int{3, 5}},
		{
			[]int{math.MaxInt, 0, math.MinInt}, []int{math.MinInt, math.MaxInt - 1},
			[]int{math.MinInt, 0, math.MaxInt - 1, math.MaxInt}, []int{math.MinInt}, []int{0, math.MaxInt},
		},
	} {
		u, i, m := Union(c.a, c.b), Inter(c.a, c.b), Minus(c.a, c.b)
		if !slices.Equal(u, c.union) || !slices.Equal(i, c.inter) || !slices.Equal(m, c.minus) {
			t.Errorf("%v and %v: %v, %v, %v, want %v, %v, %v", c.a, c.b, u, i, m, c.union, c.inter, c.minus)
		}
	}
}

// P4.4
func TestOperationsByDefinition(t *testing.T) {
	for _, a := range samples() {
		for _, b := range samples() {
			expectSet(t, "Union", Union(a, b), wanted(a, b, inEither))
			expectSet(t, "Inter", Inter(a, b), wanted(a, b, inBoth))
			expectSet(t, "Minus", Minus(a, b), wanted(a, b, inFirst))
		}
	}
}

// P4.5
func TestNormalOfSets(t *testing.T) {
	for _, l := range samples() {
		set := Normal(l)
		if !Valid(set) {
			t.Errorf("Normal of %d elements from %v on is not a set", len(l), start(l))
		}
		if Valid(l) {
			expectSet(t, "Normal of a set", set, l)
		}
		expectSet(t, "Normal of Normal", Normal(set), set)
	}
}

// P4.5
func TestNormalIgnoresOrder(t *testing.T) {
	for _, l := range samples() {
		want := Normal(l)
		turned := slices.Clone(l)
		slices.Reverse(turned)
		expectSet(t, "Normal of a reversed list", Normal(turned), want)
		for range min(len(l), 20) {
			turned = append(turned[1:], turned[0])
			expectSet(t, "Normal of a rotated list", Normal(turned), want)
		}
	}
	for _, l := range permutations([]int{4, -1, 4, 0, 2}) {
		expectSet(t, "Normal of a permutation", Normal(l), []int{-1, 0, 2, 4})
	}
}

func permutations(l []int) [][]int {
	if len(l) == 0 {
		return [][]int{nil}
	}
	var all [][]int
	for i := range l {
		for _, rest := range permutations(slices.Delete(slices.Clone(l), i, i+1)) {
			all = append(all, append(rest, l[i]))
		}
	}
	return all
}

// P4.6: the promises about two lists.
func TestAlgebraOfPairs(t *testing.T) {
	for _, a := range samples() {
		for _, b := range samples() {
			union, inter, minus := Union(a, b), Inter(a, b), Minus(a, b)
			expectSet(t, "Union, reversed", Union(b, a), union)
			expectSet(t, "Inter, reversed", Inter(b, a), inter)
			expectSet(t, "Union of a with Inter", Union(a, inter), Normal(a))
			expectSet(t, "Inter of Minus with b", Inter(minus, b), nil)
			expectSet(t, "Inter of Minus with Inter", Inter(minus, inter), nil)
			expectSet(t, "Union of Minus with Inter", Union(minus, inter), Normal(a))
			if len(union)+len(inter) != len(Normal(a))+len(Normal(b)) {
				t.Errorf("%d and %d elements from %v and %v on: %d in the union, %d in the intersection", len(a), len(b), start(a), start(b), len(union), len(inter))
			}
		}
	}
}

// P4.6: the promises about three lists.
func TestAlgebraOfTriples(t *testing.T) {
	for _, l := range [][][]int{listsOf(3, -1, 0, 1), longLists(), listsOf(1, math.MinInt, -1, 0, 1, math.MaxInt)} {
		for _, a := range l {
			for _, b := range l {
				for _, c := range l {
					expectTriple(t, a, b, c)
				}
			}
		}
	}
}

func expectTriple(t *testing.T, a, b, c []int) {
	t.Helper()
	expectSet(t, "Union is associative", Union(Union(a, b), c), Union(a, Union(b, c)))
	expectSet(t, "Inter is associative", Inter(Inter(a, b), c), Inter(a, Inter(b, c)))
	expectSet(t, "Union distributes over Inter", Union(a, Inter(b, c)), Inter(Union(a, b), Union(a, c)))
	expectSet(t, "Inter distributes over Union", Inter(a, Union(b, c)), Union(Inter(a, b), Inter(a, c)))
}

// operations are the functions that return lists, with two arguments.
func operations() []func(a, b []int) []int {
	return []func(a, b []int) []int{
		func(a, b []int) []int { return Normal(a) },
		func(a, b []int) []int { return Normal(b) },
		func(a, b []int) []int { return Union(a, b) },
		func(a, b []int) []int { return Inter(a, b) },
		func(a, b []int) []int { return Minus(a, b) },
	}
}

// P4.2, P4.4: the arguments and the memory behind them stay as they are, and the results share none with them.
func TestMemoryIsNew(t *testing.T) {
	before := []int{1, 2, 3, 5, 5, 4, 1, 3, 9, 2, 1, 1, 0, -1, 7, 8}
	for _, f := range operations() {
		for _, cut := range [][4]int{{0, 3, 3, 6}, {3, 6, 0, 3}, {0, 8, 4, 12}, {0, 8, 0, 8}, {0, 0, 0, 4}, {0, 4, 4, 4}, {2, 2, 2, 2}, {0, 4, 10, 11}} {
			memory := slices.Clone(before)
			a, b := memory[cut[0]:cut[1]], memory[cut[2]:cut[3]]
			out := f(a, b)
			if !slices.Equal(memory, before) {
				t.Fatalf("the places %v changed to %v", cut, memory)
			}
			want := slices.Clone(out)
			for i := range memory {
				memory[i] += 100
			}
			if !slices.Equal(out, want) {
				t.Errorf("the result of the places %v changes with their memory", cut)
			}
			copy(memory, before)
			all := out[:cap(out)]
			for i := range all {
				all[i] = 55
			}
			if !slices.Equal(memory, before) {
				t.Errorf("the memory of the places %v changes with the result", cut)
			}
			expectSet(t, "the same call again", f(a, b), want)
		}
	}
}

// P4.1, P4.3: the functions that report leave the list as it is.
func TestListIsLeft(t *testing.T) {
	for _, l := range samples() {
		before := slices.Clone(l)
		Valid(l)
		Has(l, 0)
		expectSet(t, "the list", l, before)
	}
}
