package glyph

import (
	"fmt"
	"math"
	"slices"
	"strings"
	"testing"
	"unicode/utf8"

	"mapsheets/api"
)

// codePoints are all integers around those of Unicode, and others that have the same low bits or are extreme.
func codePoints() []int {
	l := []int{math.MinInt, math.MinInt + 'a', math.MaxInt, math.MaxInt32, math.MinInt32, math.MaxUint32}
	for r := -70000; r <= utf8.MaxRune+70000; r++ {
		l = append(l, r)
	}
	for r := range 0x500 {
		l = append(l, 1<<8+r, 1<<16+r, 1<<21+r, 1<<31+r, 1<<32+r, 1<<62+r, -1<<32+r, -1<<63+r, ^r)
	}
	return l
}

// lettered are the code points that have a script.
func lettered() []int {
	return slices.DeleteFunc(codePoints(), func(r int) bool { return scriptBy(r) < 0 })
}

func within(r, lo, hi int) bool {
	return lo <= r && r <= hi
}

// scriptBy is the chapter's table of scripts.
func scriptBy(r int) int {
	switch {
	case slices.Contains([]int{0x20, 0x27, 0x28, 0x29, 0x2d, 0x2e}, r), within(r, 0x30, 0x39):
		return 0
	case within(r, 0x41, 0x5a), within(r, 0x61, 0x7a), within(r, 0xc0, 0x24f) && r != 0xd7 && r != 0xf7:
		return 1
	case within(r, 0x370, 0x3ff):
		return 2
	case within(r, 0x400, 0x4ff):
		return 3
	case within(r, 0x5d0, 0x5ea):
		return 4
	case within(r, 0x4e00, 0x9fff):
		return 5
	}
	return -1
}

// widthBy is the chapter's definition of Width.
func widthBy(r, letters int) int {
	script := scriptBy(r)
	switch {
	case !within(letters, 1, 64) || script == -1:
		return 0
	case script == 5:
		return letters
	case script == 0 && !within(r, 0x30, 0x39):
		return (letters + 1) / 2
	}
	return (2*letters + 2) / 3
}

// foldBy is the chapter's table of lower-case forms.
func foldBy(r int) int {
	even := r%2 == 0
	switch {
	case within(r, 0x41, 0x5a), within(r, 0xc0, 0xde) && r != 0xd7, within(r, 0x391, 0x3a9), within(r, 0x410, 0x42f):
		return r + 32
	case within(r, 0x400, 0x40f):
		return r + 80
	case even && (within(r, 0x100, 0x136) || within(r, 0x14a, 0x176)):
		return r + 1
	case !even && (within(r, 0x139, 0x147) || within(r, 0x179, 0x17d)):
		return r + 1
	case r == 0x178:
		return 0xff
	}
	return r
}

// decodeBy is the chapter's definition of Decode.
func decodeBy(s string) ([]int, api.Errno) {
	if !utf8.ValidString(s) {
		return nil, api.ErrForm
	}
	var l []int
	for _, c := range []rune(s) {
		if scriptBy(int(c)) < 0 {
			return nil, api.ErrForm
		}
		l = append(l, int(c))
	}
	return l, api.OK
}

// hebrewNear returns whether the nearest strong code point from i on, in steps of by, is Hebrew, and base if there is none.
func hebrewNear(l []int, i, by int, base bool) bool {
	for ; 0 <= i && i < len(l); i += by {
		if scriptBy(l[i]) != 0 {
			return scriptBy(l[i]) == 4
		}
	}
	return base
}

// orderBy is the chapter's definition of Order: each code point is given its place.
func orderBy(l []int) []int {
	base := hebrewNear(l, 0, 1, false)
	left := make([]bool, len(l))
	for i := range l {
		before, after := hebrewNear(l, i, -1, base), hebrewNear(l, i, 1, base)
		left[i] = before && after || before != after && base
	}
	out := []int{}
	for start := 0; start < len(l); {
		end := start
		for end < len(l) && left[end] == left[start] {
			end++
		}
		run := slices.Clone(l[start:end])
		if left[start] {
			run = nil
			for i := end - 1; i >= start; i-- {
				digits := 0
				for i-digits >= start && within(l[i-digits], '0', '9') {
					digits++
				}
				run = append(run, l[i-max(digits, 1)+1:i+1]...)
				i -= max(digits, 1) - 1
			}
		}
		if base {
			out = append(run, out...)
		} else {
			out = append(out, run...)
		}
		start = end
	}
	return out
}

// lists calls f with every list of at most size elements of the alphabet.
func lists[E any](alphabet []E, size int, f func(l []E)) {
	var extend func(l []E)
	extend = func(l []E) {
		f(l)
		if len(l) < size {
			for _, x := range alphabet {
				extend(append(l, x))
			}
		}
	}
	extend(make([]E, 0, size))
}

// noise returns size elements of the alphabet without a pattern, always the same ones for a seed.
func noise[E any](alphabet []E, size int, seed uint32) []E {
	l := make([]E, size)
	for i := range l {
		seed = seed*1664525 + 1013904223
		l[i] = alphabet[int(seed>>8)%len(alphabet)]
	}
	return l
}

// texts are strings of many forms, those of all short lists of critical bytes among them.
func texts() []string {
	l := []string{"", "St. Moritz", "a,b", "Łódź (2)", "Αθήνα", "Омск", "אבג 12", "東京", strings.Repeat("Zürich-", 500), strings.Repeat("a", 1000) + "\xff", "\ufffd", "a\ufffd"}
	for a := range 256 {
		for b := range 256 {
			l = append(l, string([]byte{byte(a)}), string([]byte{byte(a), byte(b)}))
		}
	}
	critical := []byte{'a', ' ', ',', 0x80, 0x8f, 0x90, 0x9f, 0xa0, 0xbf, 0xc0, 0xc1, 0xc2, 0xc3, 0xd0, 0xd7, 0xdf, 0xe0, 0xe4, 0xed, 0xef, 0xf0, 0xf4, 0xf5, 0xff}
	lists(critical, 3, func(b []byte) { l = append(l, string(b)) })
	lists([]byte{'b', 0x80, 0x8f, 0x90, 0xbf, 0xc3, 0xe5, 0xf0, 0xf1, 0xf4}, 5, func(b []byte) { l = append(l, string(b)) })
	return l
}

// P6.1
func TestDecode(t *testing.T) {
	for _, c := range []struct {
		s    string
		want []int
		e    api.Errno
	}{
		{"", nil, api.OK},
		{"\x41\xc3\xa9", []int{0x41, 0xe9}, api.OK},
		{"\xe4\xb8\x80", []int{0x4e00}, api.OK},
		{"St. Moritz", []int{0x53, 0x74, 0x2e, 0x20, 0x4d, 0x6f, 0x72, 0x69, 0x74, 0x7a}, api.OK},
		{"N'(1)-0", []int{0x4e, 0x27, 0x28, 0x31, 0x29, 0x2d, 0x30}, api.OK},
		{"אב", []int{0x5d0, 0x5d1}, api.OK},
		{"a,b", nil, api.ErrForm},
		{"\x00", nil, api.ErrForm},
		{"a\n", nil, api.ErrForm},
		{"3×4", nil, api.ErrForm},
		{"\xc1\x81", nil, api.ErrForm},
		{"\xe0\x83\xa9", nil, api.ErrForm},
		{"\xf0\x84\xb8\x80", nil, api.ErrForm},
		{"\xed\xa0\x80", nil, api.ErrForm},
		{"\xf4\x90\x80\x80", nil, api.ErrForm},
		{"abc\xc3", nil, api.ErrForm},
		{"\xe4\xb8", nil, api.ErrForm},
		{"\x80", nil, api.ErrForm},
		{"\ufffd", nil, api.ErrForm},
		{"\U0001f600", nil, api.ErrForm},
	} {
		if l, e := Decode(c.s); !slices.Equal(l, c.want) || e != c.e {
			t.Errorf("Decode(%q) = %x, %d, want %x, %d", c.s, l, e, c.want, c.e)
		}
	}
	for _, s := range texts() {
		want, f := decodeBy(s)
		l, e := Decode(s)
		if !slices.Equal(l, want) || e != f {
			t.Fatalf("Decode(%q) = %x, %d, want %x, %d", s, l, e, want, f)
		}
		if u, g := Encode(l); e == api.OK && (u != s || g != api.OK) {
			t.Fatalf("Encode of Decode(%q) = %q, %d", s, u, g)
		}
	}
}

// P6.1
func TestEncode(t *testing.T) {
	for _, c := range []struct {
		l    []int
		want string
		e    api.Errno
	}{
		{nil, "", api.OK},
		{[]int{}, "", api.OK},
		{[]int{0x4e00}, "\xe4\xb8\x80", api.OK},
		{[]int{0x41, 0xe9, 0x20, 0x9fff}, "\x41\xc3\xa9\x20\xe9\xbf\xbf", api.OK},
		{[]int{0x5ea, 0x4ff, 0x370, 0x7a}, "\xd7\xaa\xd3\xbf\xcd\xb0\x7a", api.OK},
		{[]int{'a', ','}, "", api.ErrForm},
		{[]int{',', 'a'}, "", api.ErrForm},
		{[]int{0xd7}, "", api.ErrForm},
		{[]int{0xd800}, "", api.ErrForm},
		{[]int{0x110000}, "", api.ErrForm},
		{[]int{-1}, "", api.ErrForm},
		{[]int{1<<32 + 'a'}, "", api.ErrForm},
		{[]int{'a', math.MinInt + 'a'}, "", api.ErrForm},
	} {
		if s, e := Encode(c.l); s != c.want || e != c.e {
			t.Errorf("Encode(%x) = %q, %d, want %q, %d", c.l, s, e, c.want, c.e)
		}
	}
	for _, r := range codePoints() {
		s, e := Encode([]int{'x', r})
		if scriptBy(r) < 0 {
			if s != "" || e != api.ErrForm {
				t.Fatalf("Encode(x, %x) = %q, %d", r, s, e)
			}
			continue
		}
		if want := "x" + string(rune(r)); s != want || e != api.OK {
			t.Fatalf("Encode(x, %x) = %q, %d, want %q", r, s, e, want)
		}
	}
	for seed := range uint32(50) {
		l := noise(lettered(), int(seed)*20, seed)
		s, e := Encode(l)
		if e != api.OK {
			t.Fatalf("Encode(%x): %d", l, e)
		}
		if back, f := Decode(s); !slices.Equal(back, l) || f != api.OK {
			t.Fatalf("Decode of Encode(%x) = %x, %d", l, back, f)
		}
	}
}

// P6.2
func TestScript(t *testing.T) {
	for r, want := range map[int]int{
		0x1f: -1, 0x20: api.ScCommon, 0x21: -1, 0x26: -1, 0x27: api.ScCommon, 0x29: api.ScCommon, 0x2a: -1,
		0x2c: -1, 0x2d: api.ScCommon, 0x2e: api.ScCommon, 0x2f: -1, 0x30: api.ScCommon, 0x39: api.ScCommon, 0x3a: -1,
		0x40: -1, 0x41: api.ScLatin, 0x5a: api.ScLatin, 0x5b: -1, 0x60: -1, 0x61: api.ScLatin, 0x7a: api.ScLatin, 0x7b: -1,
		0xbf: -1, 0xc0: api.ScLatin, 0xd6: api.ScLatin, 0xd7: -1, 0xd8: api.ScLatin, 0xf7: -1, 0xf8: api.ScLatin, 0x24f: api.ScLatin, 0x250: -1,
		0x36f: -1, 0x370: api.ScGreek, 0x3ff: api.ScGreek, 0x400: api.ScCyrillic, 0x4ff: api.ScCyrillic, 0x500: -1,
		0x5cf: -1, 0x5d0: api.ScHebrew, 0x5ea: api.ScHebrew, 0x5eb: -1,
		0x4dff: -1, 0x4e00: api.ScHan, 0x9fff: api.ScHan, 0xa000: -1,
		-1: -1, 1<<32 + 'a': -1, math.MaxInt: -1, math.MinInt: -1, math.MinInt + 'a': -1,
	} {
		if got := Script(r); got != want {
			t.Errorf("Script(%#x) = %d, want %d", r, got, want)
		}
	}
	for _, r := range codePoints() {
		if got, want := Script(r), scriptBy(r); got != want {
			t.Fatalf("Script(%#x) = %d, want %d", r, got, want)
		}
	}
}

// P6.2
func TestWidth(t *testing.T) {
	for _, c := range [][3]int{
		{0x4e00, 9, 9}, {' ', 9, 5}, {'a', 9, 6}, {'7', 9, 6}, {0x5d0, 9, 6}, {'(', 8, 4}, {'a', 8, 6}, {'a', 7, 5},
		{0x4e00, 1, 1}, {' ', 1, 1}, {'a', 1, 1}, {0x4e00, 64, 64}, {' ', 64, 32}, {'a', 64, 43},
		{'a', 0, 0}, {'a', 65, 0}, {'a', -1, 0}, {0x4e00, math.MaxInt, 0}, {0x4e00, math.MinInt, 0}, {' ', math.MaxInt, 0},
		{',', 9, 0}, {-1, 9, 0}, {1<<32 + '7', 9, 0}, {1<<32 + ' ', 9, 0}, {0xd7, 64, 0},
	} {
		if got := Width(c[0], c[1]); got != c[2] {
			t.Errorf("Width(%#x, %d) = %d, want %d", c[0], c[1], got, c[2])
		}
	}
	for _, r := range codePoints() {
		for _, letters := range []int{1, 9, 64, 65} {
			if got, want := Width(r, letters), widthBy(r, letters); got != want {
				t.Fatalf("Width(%#x, %d) = %d, want %d", r, letters, got, want)
			}
		}
	}
	for _, r := range []int{' ', '.', '(', '0', '9', 'a', 'Z', 0xe9, 0x3b1, 0x416, 0x5d0, 0x4e00, ',', 0xa000} {
		for letters := -70; letters <= 140; letters++ {
			if got, want := Width(r, letters), widthBy(r, letters); got != want {
				t.Fatalf("Width(%#x, %d) = %d, want %d", r, letters, got, want)
			}
		}
	}
}

// P6.2
func TestFold(t *testing.T) {
	for r, want := range map[int]int{
		0x160: 0x161, 0x38c: 0x38c, 'A': 'a', 'Z': 'z', 'a': 'a', '@': '@', '[': '[', 0xbf: 0xbf,
		0xc0: 0xe0, 0xd6: 0xf6, 0xd7: 0xd7, 0xd8: 0xf8, 0xde: 0xfe, 0xdf: 0xdf,
		0x390: 0x390, 0x391: 0x3b1, 0x3a2: 0x3c2, 0x3a9: 0x3c9, 0x3aa: 0x3aa,
		0x3ff: 0x3ff, 0x400: 0x450, 0x40f: 0x45f, 0x410: 0x430, 0x42f: 0x44f, 0x430: 0x430,
		0x100: 0x101, 0x101: 0x101, 0x130: 0x131, 0x136: 0x137, 0x137: 0x137, 0x138: 0x138, 0x139: 0x13a, 0x13a: 0x13a,
		0x147: 0x148, 0x148: 0x148, 0x149: 0x149, 0x14a: 0x14b, 0x176: 0x177, 0x177: 0x177,
		0x178: 0xff, 0x179: 0x17a, 0x17a: 0x17a, 0x17d: 0x17e, 0x17e: 0x17e, 0x17f: 0x17f, 0x180: 0x180,
		0x5d0: 0x5d0, 0x4e00: 0x4e00, ',': ',', -1: -1,
		1<<32 + 'A': 1<<32 + 'A', math.MinInt + 'A': math.MinInt + 'A', math.MaxInt: math.MaxInt, math.MinInt: math.MinInt,
	} {
		if got := Fold(r); got != want {
			t.Errorf("Fold(%#x) = %#x, want %#x", r, got, want)
		}
	}
	for _, r := range codePoints() {
		if got, want := Fold(r), foldBy(r); got != want {
			t.Fatalf("Fold(%#x) = %#x, want %#x", r, got, want)
		}
	}
}

// Two Hebrew letters.
const p, q = 0x5d0, 0x5d1

// P6.3
func TestOrder(t *testing.T) {
	for _, c := range [][2][]int{
		{nil, nil},
		{{}, {}},
		{{p, q, ' ', '1', '2'}, {'1', '2', ' ', q, p}},
		{{'a', ' ', p, ' ', q}, {'a', ' ', q, ' ', p}},
		{{p, ' ', 'a'}, {'a', ' ', p}},
		{{p, q, 'a', '1'}, {'1', 'a', q, p}},
		{{'a', '1', ' ', 'b'}, {'a', '1', ' ', 'b'}},
		{{'a', p, '1', '2', q, 'b'}, {'a', q, '1', '2', p, 'b'}},
		{{'a', p, '1', ' ', '2', '3', q}, {'a', q, '2', '3', ' ', '1', p}},
		{{' ', '(', p, ')'}, {')', p, '(', ' '}},
		{{p, '(', 'a', ')', q}, {q, ')', 'a', '(', p}},
		{{'a', '(', p, ')', 'b'}, {'a', '(', p, ')', 'b'}},
		{{'a', p, ' ', '1'}, {'a', p, ' ', '1'}},
		{{'1', '2'}, {'1', '2'}},
		{{'1', '2', p}, {p, '1', '2'}},
		{{p, 'a', 'b', q}, {q, 'a', 'b', p}},
		{{',', p, q}, {',', q, p}},
		{{p, q, ',', '.', ';'}, {',', '.', ';', q, p}},
		{{p, 1<<32 + '1', 1<<32 + '2', q}, {q, 1<<32 + '1', 1<<32 + '2', p}},
	} {
		if got := Order(c[0]); !slices.Equal(got, c[1]) {
			t.Errorf("Order(%x) = %x, want %x", c[0], got, c[1])
		}
	}
	lists([]int{p, q, 'a', ' ', '1', '2', ','}, 6, func(l []int) {
		if got, want := Order(l), orderBy(l); !slices.Equal(got, want) {
			t.Fatalf("Order(%x) = %x, want %x", l, got, want)
		}
	})
}

// longLists are long lists of code points of few and of many kinds.
func longLists() [][]int {
	var l [][]int
	alphabets := [][]int{{p, q, 'a', ' ', '1', '2', '('}, {p, '1', '2', '3'}, {'a', p, ' '}, {'.', '1', ' '}, {p, q}, {math.MinInt, ' ', p, math.MaxInt, -1}, lettered()}
	for _, alphabet := range alphabets {
		for seed := range uint32(30) {
			l = append(l, noise(alphabet, int(seed)*int(seed), seed))
		}
	}
	return l
}

// P6.3
func TestOrderOfLongLists(t *testing.T) {
	for _, l := range longLists() {
		if got, want := Order(l), orderBy(l); !slices.Equal(got, want) {
			t.Fatalf("Order(%x) = %x, want %x", l, got, want)
		}
	}
}

// R1: a list of the greatest sizes that occur takes no noticeable time.
func TestOrderOfHugeLists(t *testing.T) {
	for _, pair := range [][2]int{{' ', ' '}, {'1', '1'}, {p, '1'}, {p, 'a'}, {'a', ' '}} {
		l := slices.Repeat(pair[:], 1<<16)
		if got := Order(l); len(got) != len(l) {
			t.Fatalf("Order of %x repeated has %d code points", pair, len(got))
		}
	}
}

// P6.4
func TestConcatenation(t *testing.T) {
	samples := []string{"", "a", " ", "St. Moritz", "é", "一", "אב 1", ",", "\xc3", "\xa9", "\xe4\xb8", "\x80", "\xff", "Ж", "\u00d7"}
	for _, a := range samples {
		for _, b := range samples {
			l, e := Decode(a)
			k, f := Decode(b)
			got, g := Decode(a + b)
			if e != api.OK || f != api.OK {
				continue
			}
			if want := slices.Concat(l, k); !slices.Equal(got, want) || g != api.OK {
				t.Errorf("Decode(%q + %q) = %x, %d, want %x", a, b, got, g, want)
			}
		}
	}
	// Two strings that are refused can be accepted together: only the other direction is promised.
	if l, e := Decode("\xc3" + "\xa9"); !slices.Equal(l, []int{0xe9}) || e != api.OK {
		t.Errorf("Decode of a joined code point = %x, %d", l, e)
	}
}

// P6.5
func TestFoldKeepsScripts(t *testing.T) {
	for _, r := range codePoints() {
		out := Fold(r)
		if Script(out) != Script(r) || Fold(out) != out {
			t.Fatalf("Fold(%#x) = %#x, of the script %d instead of %d, and Fold of it is %#x", r, out, Script(out), Script(r), Fold(out))
		}
	}
}

// P6.6
func TestWidthGrows(t *testing.T) {
	for _, r := range lettered() {
		last := 1
		for letters := 1; letters <= 64; letters++ {
			w := Width(r, letters)
			if w < last || w > letters {
				t.Fatalf("Width(%#x, %d) = %d after %d", r, letters, w, last)
			}
			last = w
		}
	}
}

// P6.7
func TestOrderPermutes(t *testing.T) {
	check := func(l []int) {
		got := Order(l)
		if !slices.Equal(slices.Sorted(slices.Values(got)), slices.Sorted(slices.Values(l))) {
			t.Fatalf("Order(%x) = %x has other code points", l, got)
		}
		hebrew := 0
		for _, r := range l {
			if within(r, 0x5d0, 0x5ea) {
				hebrew++
			}
		}
		if hebrew == 0 && !slices.Equal(got, l) {
			t.Fatalf("Order(%x) = %x without Hebrew code points", l, got)
		}
		back := slices.Clone(got)
		slices.Reverse(back)
		if hebrew == len(l) && !slices.Equal(back, l) {
			t.Fatalf("Order(%x) = %x with Hebrew code points alone", l, got)
		}
	}
	lists([]int{p, q, 'a', ' ', '1', ','}, 5, check)
	for _, l := range longLists() {
		check(l)
	}
	for _, r := range codePoints()[:2000] {
		check([]int{r, '1', r})
	}
	check([]int{0x5cf, '1', '2', 0x5eb})
	check([]int{0x5d0, 0x5ea, 0x5d0, 0x5e0})
}

// R3
func TestMemory(t *testing.T) {
	for _, l := range [][]int{{p, q, ' ', '1', '2'}, {'a', 'b', 'c'}, {'a', ' ', p, ' ', q}, {p}} {
		before := slices.Clone(l)
		out := Order(l)
		if !slices.Equal(l, before) {
			t.Errorf("Order changed %x to %x", before, l)
		}
		for i := range out {
			out[i] = -7
		}
		_ = append(out, -7)
		if !slices.Equal(l, before) {
			t.Errorf("the result of Order shares memory with %x", before)
		}
		if again := Order(l); slices.Contains(again, -7) {
			t.Errorf("Order(%x) kept its result: %s", l, fmt.Sprint(again))
		}
	}
	l := []int{'a', 'b'}
	if _, e := Encode(l); e != api.OK || !slices.Equal(l, []int{'a', 'b'}) {
		t.Errorf("Encode changed its argument to %x", l)
	}
	a, _ := Decode("ab")
	b, _ := Decode("ab")
	a[0] = 'x'
	if b[0] != 'a' {
		t.Error("two results of Decode share memory")
	}
}
