package wire

import (
	"bytes"
	"math"
	"math/big"
	"slices"
	"strings"
	"testing"

	"mapsheets/api"
)

// integers are the ones near which the encodings get longer, and the extreme ones.
func integers() []int {
	l := []int{math.MinInt, math.MinInt + 1, math.MaxInt, math.MaxInt - 1, 1000000007, -1000000007}
	for n := -9; n <= 9; n++ {
		l = append(l, n)
	}
	for shift := 4; shift < 63; shift++ {
		for _, d := range []int{-2, -1, 0, 1, 2} {
			l = append(l, 1<<shift+d, -1<<shift+d)
		}
	}
	return l
}

func texts() []string {
	return []string{
		"", "a", "ab", "é, ж, 地", "line\nfeed", "\x00", "\x80", "\xff\xfe\xc0", "\ufffd",
		strings.Repeat("x", 63), strings.Repeat("x", 64), strings.Repeat("\x80", 65),
		strings.Repeat("long ", 8191/5) + "y", strings.Repeat("z", 8192), strings.Repeat("\x00\xff", 1<<19),
	}
}

func lists() [][]int {
	return [][]int{
		nil, {0}, {-1}, {1, -2}, {64, 0}, {0, 0, 0}, {3, 3, -3}, {math.MinInt, math.MaxInt}, {-64, -65, 63, 64},
		make([]int, 63), make([]int, 64), make([]int, 8191), make([]int, 8192), make([]int, 1<<19), integers(),
	}
}

// digitsOf returns the encoding of n by the chapter's definition, without machine words.
func digitsOf(n int) []byte {
	u := new(big.Int).Mul(big.NewInt(2), big.NewInt(int64(n)))
	if n < 0 {
		u.Neg(u).Sub(u, big.NewInt(1))
	}
	var b []byte
	base, digit := big.NewInt(128), new(big.Int)
	for {
		u.DivMod(u, base, digit)
		b = append(b, byte(digit.Int64()))
		if u.Sign() == 0 {
			return b
		}
		b[len(b)-1] += 128
	}
}

func listOf(l []int) []byte {
	b := digitsOf(len(l))
	for _, n := range l {
		b = append(b, digitsOf(n)...)
	}
	return b
}

// intOf returns the results of Int by the chapter's definition: its errors, one after the other.
func intOf(b []byte) (int, int, api.Errno) {
	last := slices.IndexFunc(b, func(c byte) bool { return c < 128 })
	if len(b) >= 10 && (last < 0 || last > 9) {
		return 0, 0, api.ErrForm
	}
	if last < 0 {
		return 0, 0, api.ErrShort
	}
	u := new(big.Int)
	for i := last; i >= 0; i-- {
		u.Mul(u, big.NewInt(128)).Add(u, big.NewInt(int64(b[i]%128)))
	}
	n := new(big.Int).Rsh(u, 1)
	if u.Bit(0) == 1 {
		n.Neg(n).Sub(n, big.NewInt(1))
	}
	if !n.IsInt64() || !bytes.Equal(digitsOf(int(n.Int64())), b[:last+1]) {
		return 0, 0, api.ErrForm
	}
	return int(n.Int64()), last + 1, api.OK
}

// countOf returns the number with which a string or a list begins.
func countOf(b []byte, most int) (int, int, api.Errno) {
	n, used, e := intOf(b)
	if e == api.OK && n < 0 {
		e = api.ErrForm
	}
	if e == api.OK && (n > most && most >= 0 || n > 0 && most < 0) {
		e = api.ErrLimit
	}
	return n, used, e
}

func textOf(b []byte, most int) (string, int, api.Errno) {
	n, used, e := countOf(b, most)
	if e != api.OK {
		return "", 0, e
	}
	if n > len(b)-used {
		return "", 0, api.ErrShort
	}
	return string(b[used : used+n]), used + n, api.OK
}

func listFrom(b []byte, most int) ([]int, int, api.Errno) {
	count, used, e := countOf(b, most)
	if e != api.OK {
		return nil, 0, e
	}
	var l []int
	for ; count > 0; count-- {
		n, size, e := intOf(b[used:])
		if e != api.OK {
			return nil, 0, e
		}
		l, used = append(l, n), used+size
	}
	return l, used, api.OK
}

// inputs are all short byte strings of the bytes at which the cases part, alone and behind longer beginnings.
func inputs() [][]byte {
	short := [][]byte{nil}
	for from := 0; len(short) < 5000; {
		to := len(short)
		for _, b := range short[from:to] {
			for _, c := range []byte{0, 1, 2, 3, 4, 127, 128, 129, 255} {
				short = append(short, append(slices.Clone(b), c))
			}
		}
		from = to
	}
	all := slices.Clone(short)
	for _, head := range [][]byte{
		bytes.Repeat([]byte{128}, 7), bytes.Repeat([]byte{255}, 8), bytes.Repeat([]byte{129}, 9), bytes.Repeat([]byte{128}, 10), bytes.Repeat([]byte{255}, 20),
		{2, 255, 255, 255, 255, 255, 255, 255, 255}, {4, 128, 1, 255, 255, 255, 255, 255, 255, 255, 255, 255},
	} {
		for _, b := range short[:100] {
			all = append(all, append(slices.Clone(head), b...))
		}
	}
	return all
}

func mosts() []int { return []int{math.MinInt, -1, 0, 1, 2, 3, 63, 64, 1 << 40, math.MaxInt} }

// P2.1
func TestPutInt(t *testing.T) {
	for _, c := range []struct {
		n    int
		want []byte
	}{
		{0, []byte{0}},
		{-1, []byte{1}},
		{1, []byte{2}},
		{-2, []byte{3}},
		{63, []byte{126}},
		{-64, []byte{127}},
		{64, []byte{128, 1}},
		{-65, []byte{129, 1}},
		{8191, []byte{254, 127}},
		{-8192, []byte{255, 127}},
		{8192, []byte{128, 128, 1}},
		{math.MaxInt, []byte{254, 255, 255, 255, 255, 255, 255, 255, 255, 1}},
		{math.MinInt, []byte{255, 255, 255, 255, 255, 255, 255, 255, 255, 1}},
	} {
		if b := PutInt(nil, c.n); !bytes.Equal(b, c.want) {
			t.Errorf("PutInt(nil, %d) = %v, want %v", c.n, b, c.want)
		}
	}
}

// P2.1
func TestPutText(t *testing.T) {
	for _, c := range []struct {
		s    string
		want []byte
	}{
		{"", []byte{0}},
		{"ab", []byte{4, 97, 98}},
		{"xyz", []byte{6, 120, 121, 122}},
		{"é", []byte{4, 195, 169}},
		{"\x00", []byte{2, 0}},
		{"\xff\x80", []byte{4, 255, 128}},
	} {
		if b := PutText(nil, c.s); !bytes.Equal(b, c.want) {
			t.Errorf("PutText(nil, %q) = %v, want %v", c.s, b, c.want)
		}
	}
}

// P2.1
func TestPutList(t *testing.T) {
	for _, c := range []struct {
		l    []int
		want []byte
	}{
		{nil, []byte{0}},
		{[]int{}, []byte{0}},
		{[]int{1, -2}, []byte{4, 2, 3}},
		{[]int{64, 0}, []byte{4, 128, 1, 0}},
		{[]int{0, 0}, []byte{4, 0, 0}},
		{[]int{math.MinInt}, []byte{2, 255, 255, 255, 255, 255, 255, 255, 255, 255, 1}},
	} {
		if b := PutList(nil, c.l); !bytes.Equal(b, c.want) {
			t.Errorf("PutList(nil, %v) = %v, want %v", c.l, b, c.want)
		}
	}
}

// P2.1
func TestPutByDefinition(t *testing.T) {
	for _, before := range [][]byte{nil, {}, {7}, {128, 0, 255}, make([]byte, 100)} {
		for _, n := range integers() {
			if b := PutInt(before, n); !bytes.Equal(b, slices.Concat(before, digitsOf(n))) {
				t.Errorf("PutInt(%v, %d) = %v", before, n, b)
			}
		}
		for i, s := range texts() {
			if b := PutText(before, s); !bytes.Equal(b, slices.Concat(before, digitsOf(len(s)), []byte(s))) {
				t.Errorf("PutText(%v, text %d) has %d bytes", before, i, len(b))
			}
		}
		for i, l := range lists() {
			if b := PutList(before, l); !bytes.Equal(b, slices.Concat(before, listOf(l))) {
				t.Errorf("PutList(%v, list %d) has %d bytes", before, i, len(b))
			}
		}
	}
}

// P2.2
func TestInt(t *testing.T) {
	nine := bytes.Repeat([]byte{128}, 9)
	for _, c := range []struct {
		b       []byte
		n, used int
		e       api.Errno
	}{
		{[]byte{0}, 0, 1, api.OK},
		{[]byte{1, 128}, -1, 1, api.OK},
		{[]byte{127, 0}, -64, 1, api.OK},
		{[]byte{128, 1, 7}, 64, 2, api.OK},
		{append(bytes.Repeat([]byte{255}, 9), 1), math.MinInt, 10, api.OK},
		{append(bytes.Repeat([]byte{255}, 9), 1, 255), math.MinInt, 10, api.OK},
		{append(slices.Clone(nine), 1), 1 << 62, 10, api.OK},
		{append(nine[:8:8], 127), 127 << 55, 9, api.OK},
		{nil, 0, 0, api.ErrShort},
		{[]byte{}, 0, 0, api.ErrShort},
		{[]byte{128}, 0, 0, api.ErrShort},
		{[]byte{255, 129}, 0, 0, api.ErrShort},
		{nine, 0, 0, api.ErrShort},
		{append(slices.Clone(nine), 128), 0, 0, api.ErrForm},
		{append(slices.Clone(nine), 128, 0), 0, 0, api.ErrForm},
		{append(slices.Clone(nine), 128, 1), 0, 0, api.ErrForm},
		{bytes.Repeat([]byte{255}, 30), 0, 0, api.ErrForm},
		{[]byte{128, 0}, 0, 0, api.ErrForm},
		{[]byte{129, 0}, 0, 0, api.ErrForm},
		{[]byte{255, 128, 0, 1}, 0, 0, api.ErrForm},
		{append(slices.Clone(nine), 0), 0, 0, api.ErrForm},
		{append(slices.Clone(nine), 2), 0, 0, api.ErrForm},
		{append(slices.Clone(nine), 3), 0, 0, api.ErrForm},
		{append(slices.Clone(nine), 127), 0, 0, api.ErrForm},
	} {
		if n, used, e := Int(c.b); n != c.n || used != c.used || e != c.e {
			t.Errorf("Int(%v) = %d, %d, %d, want %d, %d, %d", c.b, n, used, e, c.n, c.used, c.e)
		}
	}
}

// P2.2
func TestText(t *testing.T) {
	for _, c := range []struct {
		b    []byte
		most int
		s    string
		used int
		e    api.Errno
	}{
		{[]byte{4, 97, 98, 99}, 2, "ab", 3, api.OK},
		{[]byte{4, 97, 98, 99}, math.MaxInt, "ab", 3, api.OK},
		{[]byte{4, 97, 98}, 2, "ab", 3, api.OK},
		{[]byte{4, 255, 0}, 2, "\xff\x00", 3, api.OK},
		{[]byte{0, 5}, 0, "", 1, api.OK},
		{[]byte{0, 5}, -3, "", 1, api.OK},
		{[]byte{0}, math.MinInt, "", 1, api.OK},
		{nil, 9, "", 0, api.ErrShort},
		{nil, -1, "", 0, api.ErrShort},
		{[]byte{128}, 0, "", 0, api.ErrShort},
		{[]byte{128, 0}, 9, "", 0, api.ErrForm},
		{bytes.Repeat([]byte{128}, 10), 9, "", 0, api.ErrForm},
		{[]byte{1}, 9, "", 0, api.ErrForm},
		{[]byte{1, 97, 98}, -1, "", 0, api.ErrForm},
		{PutInt(nil, math.MinInt), 9, "", 0, api.ErrForm},
		{[]byte{4, 97, 98, 99}, 1, "", 0, api.ErrLimit},
		{[]byte{4, 97}, 1, "", 0, api.ErrLimit},
		{[]byte{2, 97}, 0, "", 0, api.ErrLimit},
		{[]byte{2, 97}, -3, "", 0, api.ErrLimit},
		{[]byte{4, 97}, 2, "", 0, api.ErrShort},
		{[]byte{4}, 2, "", 0, api.ErrShort},
		{PutInt(nil, math.MaxInt), math.MaxInt, "", 0, api.ErrShort},
		{PutInt(nil, math.MaxInt), math.MaxInt - 1, "", 0, api.ErrLimit},
		{append(PutInt(nil, 1<<40), 97), 1 << 40, "", 0, api.ErrShort},
	} {
		if s, used, e := Text(c.b, c.most); s != c.s || used != c.used || e != c.e {
			t.Errorf("Text(%v, %d) = %q, %d, %d, want %q, %d, %d", c.b, c.most, s, used, e, c.s, c.used, c.e)
		}
	}
}

// P2.2
func TestList(t *testing.T) {
	for _, c := range []struct {
		b    []byte
		most int
		l    []int
		used int
		e    api.Errno
	}{
		{[]byte{4, 2, 3, 5}, 2, []int{1, -2}, 3, api.OK},
		{[]byte{4, 2, 3, 5}, math.MaxInt, []int{1, -2}, 3, api.OK},
		{[]byte{4, 128, 1, 0}, 2, []int{64, 0}, 4, api.OK},
		{[]byte{0}, 0, nil, 1, api.OK},
		{[]byte{0, 128}, -3, nil, 1, api.OK},
		{[]byte{0, 128}, math.MinInt, nil, 1, api.OK},
		{nil, 9, nil, 0, api.ErrShort},
		{nil, -1, nil, 0, api.ErrShort},
		{[]byte{255}, 0, nil, 0, api.ErrShort},
		{[]byte{128, 0}, 9, nil, 0, api.ErrForm},
		{[]byte{1}, 9, nil, 0, api.ErrForm},
		{[]byte{3, 2, 3}, -1, nil, 0, api.ErrForm},
		{[]byte{4, 2, 3}, 1, nil, 0, api.ErrLimit},
		{[]byte{4, 128, 0}, 1, nil, 0, api.ErrLimit},
		{[]byte{2, 2}, -1, nil, 0, api.ErrLimit},
		{[]byte{4, 2}, 2, nil, 0, api.ErrShort},
		{[]byte{4, 2, 128}, 2, nil, 0, api.ErrShort},
		{[]byte{4, 128, 0, 128}, 2, nil, 0, api.ErrForm},
		{[]byte{6, 2, 128, 0}, 3, nil, 0, api.ErrForm},
		{append([]byte{2}, bytes.Repeat([]byte{128}, 10)...), 1, nil, 0, api.ErrForm},
		{append([]byte{2}, bytes.Repeat([]byte{128}, 9)...), 1, nil, 0, api.ErrShort},
		{PutInt(nil, math.MaxInt), math.MaxInt, nil, 0, api.ErrShort},
		{append(PutInt(nil, math.MaxInt), 2, 128, 0), math.MaxInt, nil, 0, api.ErrForm},
		{append(PutInt(nil, 1<<40), 2, 3), 1 << 40, nil, 0, api.ErrShort},
		{PutInt(nil, math.MaxInt), math.MaxInt - 1, nil, 0, api.ErrLimit},
	} {
		if l, used, e := List(c.b, c.most); !slices.Equal(l, c.l) || used != c.used || e != c.e {
			t.Errorf("List(%v, %d) = %v, %d, %d, want %v, %d, %d", c.b, c.most, l, used, e, c.l, c.used, c.e)
		}
	}
}

// P2.2
func TestDecodingByDefinition(t *testing.T) {
	for _, b := range inputs() {
		n, used, e := Int(b)
		if wantN, wantUsed, wantE := intOf(b); n != wantN || used != wantUsed || e != wantE {
			t.Fatalf("Int(%v) = %d, %d, %d, want %d, %d, %d", b, n, used, e, wantN, wantUsed, wantE)
		}
		for _, most := range mosts() {
			s, used, e := Text(b, most)
			if wantS, wantUsed, wantE := textOf(b, most); s != wantS || used != wantUsed || e != wantE {
				t.Fatalf("Text(%v, %d) = %q, %d, %d, want %q, %d, %d", b, most, s, used, e, wantS, wantUsed, wantE)
			}
			l, used, e := List(b, most)
			if wantL, wantUsed, wantE := listFrom(b, most); !slices.Equal(l, wantL) || used != wantUsed || e != wantE {
				t.Fatalf("List(%v, %d) = %v, %d, %d, want %v, %d, %d", b, most, l, used, e, wantL, wantUsed, wantE)
			}
		}
	}
}

// P2.2: decoding neither changes its argument nor keeps it.
func TestDecodingLeavesBytes(t *testing.T) {
	for _, b := range [][]byte{{4, 97, 98, 99}, {4, 128, 1, 0}, {4, 128, 0}, {128}, {6, 2}} {
		before := slices.Clone(b)
		Int(b)
		s, _, _ := Text(b, 9)
		l, _, _ := List(b, 9)
		if !bytes.Equal(b, before) {
			t.Errorf("%v became %v", before, b)
		}
		for i := range b {
			b[i] ^= 1
		}
		again, _, _ := Text(before, 9)
		list, _, _ := List(before, 9)
		if s != again || !slices.Equal(l, list) {
			t.Errorf("the results for %v changed with it", before)
		}
	}
}

// P2.3
func TestRoundTrip(t *testing.T) {
	for _, after := range [][]byte{nil, {0}, {1}, {127}, {128}, {255, 255}, {128, 0}, make([]byte, 20)} {
		for _, n := range integers() {
			b := PutInt(nil, n)
			if got, used, e := Int(slices.Concat(b, after)); got != n || used != len(b) || e != api.OK {
				t.Fatalf("%d before %v is decoded as %d, %d, %d", n, after, got, used, e)
			}
		}
		for i, s := range texts() {
			b := PutText(nil, s)
			for _, most := range []int{len(s), len(s) + 1, math.MaxInt} {
				if got, used, e := Text(slices.Concat(b, after), most); got != s || used != len(b) || e != api.OK {
					t.Fatalf("text %d before %v, most %d: %d bytes, %d, %d", i, after, most, len(got), used, e)
				}
			}
		}
		for i, l := range lists() {
			b := PutList(nil, l)
			for _, most := range []int{len(l), len(l) + 1, math.MaxInt} {
				if got, used, e := List(slices.Concat(b, after), most); !slices.Equal(got, l) || used != len(b) || e != api.OK {
					t.Fatalf("list %d before %v, most %d: %d elements, %d, %d", i, after, most, len(got), used, e)
				}
			}
		}
	}
}

// P2.3
func TestSequence(t *testing.T) {
	b := PutList(PutText(PutInt(nil, -300), "é\x80"), []int{5, -6, 1 << 50})
	b = PutInt(PutText(b, ""), 9)
	n, at, _ := Int(b)
	s, used, _ := Text(b[at:], 3)
	at += used
	l, used, _ := List(b[at:], 3)
	at += used
	empty, used, _ := Text(b[at:], 3)
	at += used
	last, used, _ := Int(b[at:])
	if n != -300 || s != "é\x80" || !slices.Equal(l, []int{5, -6, 1 << 50}) || empty != "" || last != 9 || at+used != len(b) {
		t.Error(n, s, l, empty, last, at+used, len(b))
	}
}

// P2.4
func TestUniqueEncoding(t *testing.T) {
	for _, b := range inputs() {
		if n, used, e := Int(b); e == api.OK && !bytes.Equal(PutInt(nil, n), b[:used]) {
			t.Fatalf("Int(%v) = %d, %d, which is encoded as %v", b, n, used, PutInt(nil, n))
		}
		if s, used, e := Text(b, math.MaxInt); e == api.OK && !bytes.Equal(PutText(nil, s), b[:used]) {
			t.Fatalf("Text(%v) = %q, %d, which is encoded as %v", b, s, used, PutText(nil, s))
		}
		if l, used, e := List(b, math.MaxInt); e == api.OK && !bytes.Equal(PutList(nil, l), b[:used]) {
			t.Fatalf("List(%v) = %v, %d, which is encoded as %v", b, l, used, PutList(nil, l))
		}
	}
}

// P2.4: in sorted order, a beginning of an encoding comes right before it or before others that it begins.
func TestNoEncodingBeginsAnother(t *testing.T) {
	var ints, strs, all [][]byte
	numbers := integers()
	slices.Sort(numbers)
	for _, n := range slices.Compact(numbers) {
		ints = append(ints, PutInt(nil, n))
		all = append(all, PutList(nil, []int{n}), PutList(nil, []int{n, n}))
	}
	for _, s := range texts() {
		strs = append(strs, PutText(nil, s))
	}
	for _, encodings := range [][][]byte{ints, strs, all} {
		slices.SortFunc(encodings, bytes.Compare)
		for i := 1; i < len(encodings); i++ {
			if bytes.HasPrefix(encodings[i], encodings[i-1]) {
				t.Fatalf("the encoding %v begins another one", encodings[i-1])
			}
		}
	}
}

// P2.5
func TestBeginnings(t *testing.T) {
	for _, n := range integers() {
		b := PutInt(nil, n)
		for i := range b {
			if got, used, e := Int(b[:i]); got != 0 || used != 0 || e != api.ErrShort {
				t.Fatalf("Int(%v) = %d, %d, %d", b[:i], got, used, e)
			}
		}
	}
	for _, s := range []string{"", "a", "é, ж", "\x80\x00", strings.Repeat("x", 64), strings.Repeat("\xff", 8192)} {
		b := PutText(nil, s)
		for i := range b {
			if got, used, e := Text(b[:i], len(s)); got != "" || used != 0 || e != api.ErrShort {
				t.Fatalf("Text of %d of %d bytes: %q, %d, %d", i, len(b), got, used, e)
			}
		}
	}
	for _, l := range [][]int{nil, {0}, {1, -2}, {64, 8192, -1 << 40}, {math.MinInt, math.MaxInt}, make([]int, 300), integers()} {
		b := PutList(nil, l)
		for i := range b {
			if got, used, e := List(b[:i], len(l)); len(got) != 0 || used != 0 || e != api.ErrShort {
				t.Fatalf("List of %d of %d bytes: %v, %d, %d", i, len(b), got, used, e)
			}
		}
	}
}

// P2.6
func TestLengths(t *testing.T) {
	for k := 1; k <= 9; k++ {
		bound := 1 << (7*k - 1)
		for _, n := range append(integers(), -bound-1, -bound, bound-1, bound) {
			within := -bound <= n && n <= bound-1
			if size := len(PutInt(nil, n)); (size <= k) != within {
				t.Errorf("%d is encoded in %d bytes", n, size)
			}
		}
	}
	for _, n := range integers() {
		if size := len(PutInt(nil, n)); size < 1 || size > 10 {
			t.Errorf("%d is encoded in %d bytes", n, size)
		}
	}
}

// puts are the functions that append, for small values and for large ones.
func puts() []func(b []byte) []byte {
	return []func(b []byte) []byte{
		func(b []byte) []byte { return PutInt(b, 0) },
		func(b []byte) []byte { return PutInt(b, math.MinInt) },
		func(b []byte) []byte { return PutText(b, "") },
		func(b []byte) []byte { return PutText(b, "text") },
		func(b []byte) []byte { return PutText(b, strings.Repeat("text", 100)) },
		func(b []byte) []byte { return PutList(b, nil) },
		func(b []byte) []byte { return PutList(b, []int{1, -2}) },
		func(b []byte) []byte { return PutList(b, make([]int, 500)) },
	}
}

// P2.7
func TestCapacityIsLeft(t *testing.T) {
	for i, put := range puts() {
		for _, size := range []int{0, 1, 50} {
			for _, room := range []int{0, 1, 2, 20, 5000} {
				memory := bytes.Repeat([]byte{99}, size+room)
				before := slices.Clone(memory)
				out := put(memory[:size])
				if !bytes.Equal(memory, before) {
					t.Errorf("put %d of %d bytes with room for %d changed the memory", i, size, room)
				}
				if again := put(memory[:size:size]); !bytes.Equal(again, out) {
					t.Errorf("put %d depends on the capacity", i)
				}
			}
		}
	}
}

// P2.7
func TestMemoryIsNew(t *testing.T) {
	for i, put := range puts() {
		for _, size := range []int{0, 1, 50} {
			memory := bytes.Repeat([]byte{99}, size+5000)
			before := slices.Clone(memory)
			out := put(memory[:size])
			want := slices.Clone(out)
			for j := range memory {
				memory[j] = 1
			}
			if !bytes.Equal(out, want) {
				t.Errorf("put %d: the result changes with the memory of %d bytes", i, size)
			}
			copy(memory, before)
			all := out[:cap(out)]
			for j := range all {
				all[j] = 1
			}
			if !bytes.Equal(memory, before) {
				t.Errorf("put %d: the memory of %d bytes changes with the result", i, size)
			}
		}
	}
}

// P2.7
func TestListIsLeft(t *testing.T) {
	l := []int{3, -4, 1 << 40, 7}
	b := PutList(nil, l[:3])
	want := slices.Clone(b)
	if !slices.Equal(l, []int{3, -4, 1 << 40, 7}) {
		t.Errorf("the list became %v", l)
	}
	l[0], l[2] = 9, 9
	if !bytes.Equal(b, want) {
		t.Error("the encoding changes with the list")
	}
}
