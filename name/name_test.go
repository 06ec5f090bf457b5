package name

import (
	"bytes"
	"math"
	"slices"
	"strings"
	"testing"
	"unicode/utf8"

	"mapsheets/api"
	"mapsheets/glyph"
)

// marked are the chapter's marks.
var marked = []rune{32, 39, 40, 41, 45, 46}

// checkBy is the chapter's list of the errors of Check.
func checkBy(s string) api.Errno {
	if len(s) == 0 {
		return api.ErrName
	}
	if len(s) > 40 {
		return api.ErrLimit
	}
	if _, e := glyph.Decode(s); e != api.OK {
		return e
	}
	l := []rune(s)
	if l[0] == 32 || l[len(l)-1] == 32 {
		return api.ErrName
	}
	common := true
	for i, r := range l {
		if i > 0 && r == 32 && l[i-1] == 32 {
			return api.ErrName
		}
		common = common && glyph.Script(int(r)) == api.ScCommon
	}
	if common {
		return api.ErrName
	}
	return api.OK
}

// keyBy is the chapter's definition of the key of a valid name.
func keyBy(s string) []int {
	k := []int{}
	for _, r := range []rune(s) {
		if !slices.Contains(marked, r) {
			k = append(k, glyph.Fold(int(r)))
		}
	}
	return k
}

// listCmp compares lists of numbers at the first place where they differ.
func listCmp(a, b []int) int {
	for i := range min(len(a), len(b)) {
		if a[i] < b[i] {
			return -1
		}
		if a[i] > b[i] {
			return 1
		}
	}
	switch {
	case len(a) < len(b):
		return -1
	case len(a) > len(b):
		return 1
	}
	return 0
}

// cmpBy is the chapter's order of all strings.
func cmpBy(a, b string) int {
	valid, other := checkBy(a) == api.OK, checkBy(b) == api.OK
	switch {
	case !valid && other:
		return -1
	case valid && !other:
		return 1
	case valid && other:
		if n := listCmp(keyBy(a), keyBy(b)); n != 0 {
			return n
		}
	}
	return bytes.Compare([]byte(a), []byte(b))
}

// beginsBy is the chapter's definition of Begins.
func beginsBy(s, prefix string) bool {
	if checkBy(s) != api.OK {
		return false
	}
	if prefix == "" {
		return true
	}
	if checkBy(prefix) != api.OK {
		return false
	}
	k, first := keyBy(s), keyBy(prefix)
	if len(first) > len(k) {
		return false
	}
	return listCmp(first, k[:len(first)]) == 0
}

// stringsOf calls f with every string of at most size of the pieces.
func stringsOf(pieces []string, size int, f func(s string)) {
	var extend func(s string, size int)
	extend = func(s string, size int) {
		f(s)
		if size > 0 {
			for _, piece := range pieces {
				extend(s+piece, size-1)
			}
		}
	}
	extend("", size)
}

// collected are all strings of at most size of the pieces.
func collected(size int, pieces ...string) []string {
	var l []string
	stringsOf(pieces, size, func(s string) { l = append(l, s) })
	return l
}

// critical are the pieces that the rules of names tell apart.
var critical = []string{"a", "B", "é", "É", "東", " ", "'", "(", ")", "-", ".", "7", ",", "\xc3", "\xff", "×"}

// samples are strings with and without keys in common, in all scripts, valid names or nearly so.
func samples() []string {
	l := []string{
		"Saint-Denis", "saint denis", "saintdenis", "SAINTDENIS", "Saint Deni", "Saint-Denis 2",
		"Neustadt (Dosse)", "Neustadt", "Neu-Stadt", "neust", "neus", "N", "(n)", "'n'", ".n.", "-n-",
		"Zürich", "ZÜRICH", "zurich", "Æ", "æ", "ÿ", "Ÿ", "Łódź", "ΑΘΗΝΑ", "αθηνα", "Ά", "Омск", "ОМСК", "Ѐ", "ѐ",
		"אב", "אב 1", "東京", "東", "A1", "A01", "A 1", "1A", "a1b", "12-34", "1", "()", ".", "", " ", "  ", " a", "a ", "a  b", "a b",
		"a,b", "a\n", "\x00", "\xff", "\xffa", "\xc3", "\xc3\x28", "\xed\xa0\x80", "\xf0\x9f\x98\x80", "\xe0\x81\xa1", "×", "a×", "\ufffd",
		strings.Repeat("a", 39), strings.Repeat("a", 40), strings.Repeat("A", 40), strings.Repeat("a", 41), strings.Repeat("a", 42),
		strings.Repeat("é", 20), strings.Repeat("É", 20), strings.Repeat("é", 20) + "a", strings.Repeat("東", 13), strings.Repeat("東", 14),
		strings.Repeat(" ", 40), strings.Repeat(" ", 41), strings.Repeat("1", 40), strings.Repeat("1", 41), strings.Repeat("\xff", 40), strings.Repeat("\xff", 41),
		strings.Repeat("-", 39) + "a", "a" + strings.Repeat("-", 39), strings.Repeat("a ", 20), " " + strings.Repeat("a", 40),
	}
	return append(l, collected(2, critical...)...)
}

// P7.1
func TestCheck(t *testing.T) {
	for _, c := range []struct {
		s    string
		want api.Errno
	}{
		{"", api.ErrName},
		{"a", api.OK},
		{"A1", api.OK},
		{"1a", api.OK},
		{"12-34", api.ErrName},
		{"1", api.ErrName},
		{".", api.ErrName},
		{"(')-.", api.ErrName},
		{" ", api.ErrName},
		{" a", api.ErrName},
		{"a ", api.ErrName},
		{"a  b", api.ErrName},
		{"a   b", api.ErrName},
		{"a b c", api.OK},
		{"a--b", api.OK},
		{"a.. b", api.OK},
		{"-a-", api.OK},
		{"(a)", api.OK},
		{"'t Hart", api.OK},
		{"St. Moritz", api.OK},
		{"é", api.OK},
		{"Α", api.OK},
		{"Ж", api.OK},
		{"א", api.OK},
		{"東京", api.OK},
		{"א 東 a Ж 9", api.OK},
		{"a,b", api.ErrForm},
		{"a\tb", api.ErrForm},
		{"a\n", api.ErrForm},
		{"a\x00", api.ErrForm},
		{"a\u00a0b", api.ErrForm},
		{"a×b", api.ErrForm},
		{"\xff", api.ErrForm},
		{"ab\xc3", api.ErrForm},
		{"\xc1\x81", api.ErrForm},
		{"\xed\xa0\x80", api.ErrForm},
		{"\ufffd", api.ErrForm},
		// The form is checked before the blanks and the scripts, and the length before the form.
		{" \xff", api.ErrForm},
		{"1,", api.ErrForm},
		{"  ,", api.ErrForm},
		{strings.Repeat("a", 40), api.OK},
		{strings.Repeat("a", 41), api.ErrLimit},
		{strings.Repeat("é", 20), api.OK},
		{strings.Repeat("é", 20) + "a", api.ErrLimit},
		{strings.Repeat("東", 13) + "a", api.OK},
		{strings.Repeat("東", 14), api.ErrLimit},
		{strings.Repeat(" ", 40), api.ErrName},
		{strings.Repeat(" ", 41), api.ErrLimit},
		{strings.Repeat("\xff", 40), api.ErrForm},
		{strings.Repeat("\xff", 41), api.ErrLimit},
		{strings.Repeat("1", 40), api.ErrName},
		{strings.Repeat("1", 41), api.ErrLimit},
	} {
		if e := Check(c.s); e != c.want {
			t.Errorf("Check(%q) = %d, want %d", c.s, e, c.want)
		}
	}
}

// P7.1 and P7.2
func TestShortStrings(t *testing.T) {
	stringsOf(critical, 4, func(s string) {
		want := checkBy(s)
		if e := Check(s); e != want {
			t.Fatalf("Check(%q) = %d, want %d", s, e, want)
		}
		k, e := Key(s)
		if e != want {
			t.Fatalf("Key(%q): %d, want %d", s, e, want)
		}
		if e == api.OK && !slices.Equal(k, keyBy(s)) || e != api.OK && len(k) > 0 {
			t.Fatalf("Key(%q) = %d, %d", s, k, e)
		}
	})
}

// P7.1 and P7.2
func TestSingleCodePoints(t *testing.T) {
	for r := range rune(utf8.MaxRune + 1) {
		s := string(r)
		want := checkBy(s)
		if e := Check(s); e != want {
			t.Fatalf("Check(%q) = %d, want %d", s, e, want)
		}
		s = "x" + s + "y"
		want = checkBy(s)
		k, e := Key(s)
		if e != want || e == api.OK && !slices.Equal(k, keyBy(s)) {
			t.Fatalf("Key(%q) = %d, %d, want the error %d", s, k, e, want)
		}
	}
}

// P7.1: the size of a string that is too long does not matter.
func TestHugeStrings(t *testing.T) {
	huge := strings.Repeat("a", 1<<24)
	if e := Check(huge); e != api.ErrLimit {
		t.Errorf("Check of %d letters = %d", len(huge), e)
	}
	if n := Cmp(huge, huge+"a"); n != -1 {
		t.Errorf("Cmp of %d and %d letters = %d", len(huge), len(huge)+1, n)
	}
	if Begins(huge, "a") || Begins("a", huge) || Begins(huge, "") {
		t.Errorf("Begins is true of %d letters", len(huge))
	}
}

// P7.2
func TestKey(t *testing.T) {
	for _, c := range []struct {
		s    string
		want []int
		e    api.Errno
	}{
		{"a", []int{'a'}, api.OK},
		{"Saint-Denis", []int{'s', 'a', 'i', 'n', 't', 'd', 'e', 'n', 'i', 's'}, api.OK},
		{"saint denis", []int{'s', 'a', 'i', 'n', 't', 'd', 'e', 'n', 'i', 's'}, api.OK},
		{"St. Jo'B (2)", []int{'s', 't', 'j', 'o', 'b', '2'}, api.OK},
		{"((a)).--'", []int{'a'}, api.OK},
		{"9 A 0", []int{'9', 'a', '0'}, api.OK},
		{"ÀÉØ", []int{0xe0, 0xe9, 0xf8}, api.OK},
		{"Ÿß", []int{0xff, 0xdf}, api.OK},
		{"ΑΩΌ", []int{0x3b1, 0x3c9, 0x38c}, api.OK},
		{"ЀЖ", []int{0x450, 0x436}, api.OK},
		{"אב", []int{0x5d0, 0x5d1}, api.OK},
		{"東 京", []int{0x6771, 0x4eac}, api.OK},
		{"ba", []int{'b', 'a'}, api.OK},
		{"aa", []int{'a', 'a'}, api.OK},
		{"", nil, api.ErrName},
		{"1", nil, api.ErrName},
		{"a ", nil, api.ErrName},
		{"a  b", nil, api.ErrName},
		{"a,b", nil, api.ErrForm},
		{"a\xff", nil, api.ErrForm},
		{strings.Repeat("a", 41), nil, api.ErrLimit},
	} {
		if k, e := Key(c.s); !slices.Equal(k, c.want) || e != c.e {
			t.Errorf("Key(%q) = %d, %d, want %d, %d", c.s, k, e, c.want, c.e)
		}
	}
	for _, s := range samples() {
		k, e := Key(s)
		if e != checkBy(s) || e == api.OK && !slices.Equal(k, keyBy(s)) || e != api.OK && len(k) > 0 {
			t.Errorf("Key(%q) = %d, %d", s, k, e)
		}
	}
}

// ascending are strings in the order of Cmp; those of the first line are not valid names.
var ascending = []string{
	"", " ", " a", "(1)", "1", "10", "9", "a ", "a  b", "a,b", "z,", "\x80", "\xc3", "\xff",
	"1A", "1a", "A", "a", "(a) 1", "A1", "a1", "a-10", "A 2", "A-B", "AB", "a b", "a-b", "aB", "ab", "AC", "Neu-Stadt", "NeuStadt", "Neustadt", "neustadt", "Neustadt (Dosse)",
	"Saint-Denis", "saint denis", "saint-denis", "saintdenis", "Saint-Denis 2", "z", "É", "é", "ÿ", "Ÿ", "Ω", "ω", "Ж", "ж", "א", "אב", "ב", "東",
}

// P7.3
func TestCmp(t *testing.T) {
	for i, a := range ascending {
		for j, b := range ascending {
			want := 0
			if i < j {
				want = -1
			} else if i > j {
				want = 1
			}
			if n := Cmp(a, b); n != want {
				t.Errorf("Cmp(%q, %q) = %d, want %d", a, b, n, want)
			}
		}
	}
}

// P7.3
func TestCmpOfSamples(t *testing.T) {
	all := samples()
	for _, a := range all {
		for _, b := range all {
			if n, want := Cmp(a, b), cmpBy(a, b); n != want {
				t.Fatalf("Cmp(%q, %q) = %d, want %d", a, b, n, want)
			}
		}
	}
	short := collected(4, "a", "A", "-", "1")
	for _, a := range short {
		for _, b := range short {
			if n, want := Cmp(a, b), cmpBy(a, b); n != want {
				t.Fatalf("Cmp(%q, %q) = %d, want %d", a, b, n, want)
			}
		}
	}
}

// P7.4
func TestBegins(t *testing.T) {
	for _, c := range []struct {
		s, prefix string
		want      bool
	}{
		{"Neustadt (Dosse)", "neust", true},
		{"Neustadt (Dosse)", "NEUSTADT D", true},
		{"Neustadt", "Neu-Stadt", true},
		{"Neu-Stadt", "Neustadt", true},
		{"neu", "Neustadt", false},
		{"Neustadt", "neusb", false},
		{"Neustadt", "eu", false},
		{"a", "", true},
		{"a", "a", true},
		{"a", "A", true},
		{"a", "(a)", true},
		{"(a)", "a", true},
		{"(1) a", "1a", true},
		{"ab", "b", false},
		{"ab", "abc", false},
		{"Élan", "é", true},
		{"Élan", "e", false},
		{"東京", "東", true},
		{"אב 1", "א", true},
		// A prefix that is not a valid name is none, though the name begins with its bytes.
		{"a1", "1", false},
		{"1a", "1", false},
		{"(a)", "(", false},
		{"a b", "a ", false},
		{"é", "\xc3", false},
		{"a", strings.Repeat("a", 41), false},
		{"", "", false},
		{"1", "", false},
		{"1", "1", false},
		{" a", "", false},
		{" a", "a", false},
		{"a,b", "a", false},
		{"\xff", "\xff", false},
		{strings.Repeat("a", 41), "a", false},
		{strings.Repeat("a", 40), strings.Repeat("A", 40), true},
	} {
		if ok := Begins(c.s, c.prefix); ok != c.want {
			t.Errorf("Begins(%q, %q) = %v, want %v", c.s, c.prefix, ok, c.want)
		}
	}
	all := append(samples(), collected(3, "a", "A", "b", "-", "1")...)
	for _, s := range all {
		for _, prefix := range all {
			if ok, want := Begins(s, prefix), beginsBy(s, prefix); ok != want {
				t.Fatalf("Begins(%q, %q) = %v, want %v", s, prefix, ok, want)
			}
		}
	}
}

// P7.5
func TestWidth(t *testing.T) {
	for _, c := range []struct {
		s       string
		letters int
		want    int
		e       api.Errno
	}{
		{"a b", 6, 11, api.OK},
		{"St. Moritz", 9, 58, api.OK},
		{"a", 1, 1, api.OK},
		{"a", 64, 43, api.OK},
		{"東京", 64, 128, api.OK},
		{"東 1", 9, 20, api.OK},
		{"אב", 9, 12, api.OK},
		{"é", 9, 6, api.OK},
		{strings.Repeat("a", 40), 64, 1720, api.OK},
		{"a", 0, 0, api.ErrRange},
		{"a", 65, 0, api.ErrRange},
		{"a", -1, 0, api.ErrRange},
		{"a", math.MinInt, 0, api.ErrRange},
		{"a", math.MaxInt, 0, api.ErrRange},
		{"a", 1<<32 + 9, 0, api.ErrRange},
		{"", 9, 0, api.ErrName},
		{"1", 9, 0, api.ErrName},
		{"a,b", 9, 0, api.ErrForm},
		{strings.Repeat("a", 41), 9, 0, api.ErrLimit},
		// The error of the name comes before that of the height.
		{"", 0, 0, api.ErrName},
		{"1", 0, 0, api.ErrName},
		{" a", 65, 0, api.ErrName},
		{"a,b", 65, 0, api.ErrForm},
		{strings.Repeat("a", 41), -1, 0, api.ErrLimit},
	} {
		if w, e := Width(c.s, c.letters); w != c.want || e != c.e {
			t.Errorf("Width(%q, %d) = %d, %d, want %d, %d", c.s, c.letters, w, e, c.want, c.e)
		}
	}
}

// P7.5
func TestWidthOfSamples(t *testing.T) {
	for _, s := range samples() {
		for letters := -2; letters <= 67; letters++ {
			want, e := 0, checkBy(s)
			if e == api.OK && (letters < 1 || letters > 64) {
				e = api.ErrRange
			}
			if e == api.OK {
				for _, r := range s {
					want += glyph.Width(int(r), letters)
				}
			}
			if w, got := Width(s, letters); w != want || got != e {
				t.Fatalf("Width(%q, %d) = %d, %d, want %d, %d", s, letters, w, got, want, e)
			}
		}
	}
}

// P7.6
func TestTotalOrder(t *testing.T) {
	all := append(samples()[:80], collected(3, "a", "A", "-", "1")...)
	slices.Sort(all)
	all = slices.Compact(all)
	for _, a := range all {
		for _, b := range all {
			n := Cmp(a, b)
			if (n == 0) != (a == b) || Cmp(b, a) != -n || n < -1 || n > 1 {
				t.Fatalf("Cmp(%q, %q) = %d, and the other way round %d", a, b, n, Cmp(b, a))
			}
		}
	}
	for _, a := range all {
		for _, b := range all {
			if Cmp(a, b) > 0 {
				continue
			}
			for _, c := range all {
				if Cmp(b, c) <= 0 && Cmp(a, c) > 0 {
					t.Fatalf("%q comes after %q, but not after %q, which does not come after it", a, c, b)
				}
			}
		}
	}
}

// validNames are the valid ones of the samples and of others, in the order of Cmp.
func validNames() []string {
	l := append(samples(), collected(4, "a", "A", "b", "-", "1")...)
	l = slices.DeleteFunc(l, func(s string) bool { return checkBy(s) != api.OK })
	slices.SortFunc(l, Cmp)
	return slices.Compact(l)
}

// P7.7
func TestBeginningsNest(t *testing.T) {
	names := validNames()
	for _, s := range names {
		if !Begins(s, s) || !Begins(s, "") {
			t.Fatalf("%q does not begin with itself, or not with nothing", s)
		}
	}
	some := append(collected(3, "a", "A", "b", "1"), "", "a-b", "Neustadt (Dosse)", "Neustadt", "Neu-Stadt", "neus")
	for _, a := range some {
		for _, b := range some {
			if !Begins(a, b) {
				continue
			}
			for _, c := range some {
				if Begins(b, c) && !Begins(a, c) {
					t.Fatalf("%q begins with %q, and that with %q, but not the first with the last", a, b, c)
				}
			}
		}
	}
}

// P7.7
func TestNamesOfPrefixAreSuccessive(t *testing.T) {
	names := validNames()
	for _, prefix := range append(names, "") {
		first := slices.IndexFunc(names, func(s string) bool { return Begins(s, prefix) })
		if first < 0 {
			t.Fatalf("no name begins with %q", prefix)
		}
		ended := false
		for _, s := range names[first:] {
			if Begins(s, prefix) && ended {
				t.Fatalf("%q begins with %q, but a name before it does not", s, prefix)
			}
			ended = ended || !Begins(s, prefix)
		}
	}
}

// P7.8
func TestKeysAreFolded(t *testing.T) {
	check := func(s string) {
		k, e := Key(s)
		if e != api.OK {
			return
		}
		if len(k) == 0 {
			t.Fatalf("Key(%q) is empty", s)
		}
		for _, r := range k {
			if slices.Contains(marked, rune(r)) || glyph.Fold(r) != r {
				t.Fatalf("Key(%q) = %d has %d", s, k, r)
			}
		}
	}
	for _, s := range validNames() {
		check(s)
	}
	for r := range rune(0x10000) {
		check(string(r))
		check("(" + string(r) + ")")
	}
}

// R3
func TestMemory(t *testing.T) {
	k, _ := Key("ab")
	l, _ := Key("ab")
	k[0] = -7
	_ = append(k, -7)
	if again, _ := Key("ab"); l[0] != 'a' || again[0] != 'a' {
		t.Errorf("two results of Key share memory: %d, %d", l, again)
	}
}
