package digest

import (
	"bytes"
	"fmt"
	"hash/crc32"
	"hash/fnv"
	"math"
	"math/big"
	"slices"
	"strings"
	"testing"

	"mapsheets/api"
)

// noise returns bytes without a pattern, always the same ones for a size and a seed.
func noise(size int, seed uint32) []byte {
	b := make([]byte, size)
	for i := range b {
		seed = seed*1664525 + 1013904223
		b[i] = byte(seed >> 24)
	}
	return b
}

// contents are no bytes, each single byte, some pairs, patterns, and noise of many sizes.
func contents() [][]byte {
	l := [][]byte{nil, {}, []byte("123456789"), []byte("é, ж, 地"), []byte(strings.Repeat("long ", 5000))}
	for i := range 256 {
		l = append(l, []byte{byte(i)}, []byte{byte(i), 0}, []byte{0, byte(i)}, []byte{byte(i), byte(255 - i)})
	}
	for size := range 70 {
		l = append(l, make([]byte, size), bytes.Repeat([]byte{255}, size), noise(size, uint32(size)))
	}
	return append(l, noise(4096, 1), noise(1<<20, 2), make([]byte, 1<<16), bytes.Repeat([]byte{255}, 1<<16))
}

// numbers are small integers, those near the powers of 2, and the extreme ones.
func numbers() []int {
	l := []int{math.MinInt, math.MinInt + 1, math.MaxInt, math.MaxInt - 1, 0x0123456789abcdef, -0x0123456789abcdef}
	for n := -9; n <= 9; n++ {
		l = append(l, n)
	}
	for shift := 4; shift < 63; shift++ {
		for _, d := range []int{-1, 0, 1} {
			l = append(l, 1<<shift+d, -1<<shift+d)
		}
	}
	return l
}

// digests are the numbers as digests, and the start of Fnv.
func digests() []uint64 {
	l := []uint64{0xcbf29ce484222325, 0xfedcba9876543210, 1 << 63, math.MaxUint64}
	for _, n := range numbers() {
		l = append(l, uint64(n))
	}
	return l
}

// crcOf is the chapter's definition of Crc, bit by bit.
func crcOf(b []byte) int {
	register := 0xffffffff
	for _, next := range b {
		register ^= int(next)
		for range 8 {
			out := register & 1
			register >>= 1
			if out == 1 {
				register ^= 0xedb88320
			}
		}
	}
	return 0xffffffff - register
}

// fnvOf is the chapter's definition of the steps of Fnv, without machine words.
func fnvOf(d uint64, b []byte) uint64 {
	modulus := new(big.Int).Lsh(big.NewInt(1), 64)
	n := new(big.Int).SetUint64(d)
	for _, next := range b {
		n.Xor(n, big.NewInt(int64(next)))
		n.Mul(n, big.NewInt(0x100000001b3)).Mod(n, modulus)
	}
	return n.Uint64()
}

// bytesOf returns the eight bytes of n in two's complement, the most significant one first.
func bytesOf(n int) []byte {
	u := big.NewInt(int64(n))
	if n < 0 {
		u.Add(u, new(big.Int).Lsh(big.NewInt(1), 64))
	}
	return u.FillBytes(make([]byte, 8))
}

// sealOf is the chapter's definition of Seal.
func sealOf(b []byte) []byte {
	c := crcOf(b)
	return slices.Concat(b, []byte{byte(c / (1 << 24)), byte(c / (1 << 16) % 256), byte(c / 256 % 256), byte(c % 256)})
}

// P3.1
func TestCrc(t *testing.T) {
	for _, c := range []struct {
		b    string
		want int
	}{
		{"", 0},
		{"123456789", 0xcbf43926},
		{"\x00", 0xd202ef8d},
		{"\xff", 0xff000000},
		{"\x00\x00\x00\x00", 0x2144df1c},
		{"\xff\xff\xff\xff", 0xffffffff},
		{"a", 0xe8b7be43},
		{"abc", 0x352441c2},
		{"The quick brown fox jumps over the lazy dog", 0x414fa339},
	} {
		if got := Crc([]byte(c.b)); got != c.want {
			t.Errorf("Crc(%q) = %#x, want %#x", c.b, got, c.want)
		}
	}
	if c := Crc(nil); c != 0 {
		t.Errorf("Crc(nil) = %#x", c)
	}
}

// P3.1
func TestCrcByDefinition(t *testing.T) {
	for _, b := range contents() {
		c := Crc(b)
		if c != crcOf(b) || c != int(crc32.ChecksumIEEE(b)) {
			t.Errorf("Crc of %d bytes from %v on is %#x, want %#x", len(b), b[:min(len(b), 4)], c, crcOf(b))
		}
		if c < 0 || c > 1<<32-1 {
			t.Errorf("Crc of %d bytes is %d", len(b), c)
		}
	}
}

// P3.1
func TestFnv(t *testing.T) {
	for _, c := range []struct {
		b    string
		want uint64
	}{
		{"", 0xcbf29ce484222325},
		{"a", 0xaf63dc4c8601ec8c},
		{"\x00", 0xaf63bd4c8601b7df},
		{"foobar", 0x85944171f73967e8},
	} {
		if got := Fnv([]byte(c.b)); got != c.want {
			t.Errorf("Fnv(%q) = %#x, want %#x", c.b, got, c.want)
		}
	}
	if d := Fnv(nil); d != 0xcbf29ce484222325 {
		t.Errorf("Fnv(nil) = %#x", d)
	}
}

// P3.1
func TestFnvByDefinition(t *testing.T) {
	for _, b := range contents() {
		h := fnv.New64a()
		h.Write(b)
		if d := Fnv(b); d != h.Sum64() {
			t.Errorf("Fnv of %d bytes from %v on is %#x, want %#x", len(b), b[:min(len(b), 4)], d, h.Sum64())
		}
		if len(b) <= 4096 && Fnv(b) != fnvOf(0xcbf29ce484222325, b) {
			t.Errorf("Fnv of %d bytes from %v on is not what the steps give", len(b), b[:min(len(b), 4)])
		}
	}
}

// P3.1
func TestMix(t *testing.T) {
	for _, c := range []struct {
		n    int
		want []byte
	}{
		{0, []byte{0, 0, 0, 0, 0, 0, 0, 0}},
		{1, []byte{0, 0, 0, 0, 0, 0, 0, 1}},
		{-1, []byte{255, 255, 255, 255, 255, 255, 255, 255}},
		{-2, []byte{255, 255, 255, 255, 255, 255, 255, 254}},
		{0x0123456789abcdef, []byte{0x01, 0x23, 0x45, 0x67, 0x89, 0xab, 0xcd, 0xef}},
		{math.MaxInt, []byte{127, 255, 255, 255, 255, 255, 255, 255}},
		{math.MinInt, []byte{128, 0, 0, 0, 0, 0, 0, 0}},
	} {
		for _, d := range []uint64{0, 1, 0xcbf29ce484222325, math.MaxUint64} {
			if got := Mix(d, c.n); got != fnvOf(d, c.want) {
				t.Errorf("Mix(%#x, %d) = %#x, want %#x", d, c.n, got, fnvOf(d, c.want))
			}
		}
	}
}

// P3.1
func TestMixByDefinition(t *testing.T) {
	for i, d := range digests() {
		for j, n := range numbers() {
			if (i+j)%7 != 0 {
				continue
			}
			if got := Mix(d, n); got != fnvOf(d, bytesOf(n)) {
				t.Errorf("Mix(%#x, %d) = %#x, want %#x", d, n, got, fnvOf(d, bytesOf(n)))
			}
		}
	}
}

// P3.1
func TestHex(t *testing.T) {
	for _, c := range []struct {
		d    uint64
		want string
	}{
		{0, "0000000000000000"},
		{9, "0000000000000009"},
		{10, "000000000000000a"},
		{15, "000000000000000f"},
		{16, "0000000000000010"},
		{255, "00000000000000ff"},
		{0x0123456789abcdef, "0123456789abcdef"},
		{0xfedcba9876543210, "fedcba9876543210"},
		{1 << 63, "8000000000000000"},
		{math.MaxUint64, "ffffffffffffffff"},
		{Fnv(nil), "cbf29ce484222325"},
	} {
		if s := Hex(c.d); s != c.want {
			t.Errorf("Hex(%d) = %q, want %q", c.d, s, c.want)
		}
	}
	for _, d := range digests() {
		if s := Hex(d); s != fmt.Sprintf("%016x", d) {
			t.Errorf("Hex(%d) = %q", d, s)
		}
	}
}

// P3.2
func TestSeal(t *testing.T) {
	for _, c := range []struct{ b, want string }{
		{"", "\x00\x00\x00\x00"},
		{"123456789", "123456789\xcb\xf4\x39\x26"},
		{"\x00", "\x00\xd2\x02\xef\x8d"},
		{"\xff", "\xff\xff\x00\x00\x00"},
		{"\xff\xff\xff\xff", "\xff\xff\xff\xff\xff\xff\xff\xff"},
	} {
		if b := Seal([]byte(c.b)); string(b) != c.want {
			t.Errorf("Seal(%q) = %q, want %q", c.b, b, c.want)
		}
	}
	for _, b := range contents() {
		if out := Seal(b); !bytes.Equal(out, sealOf(b)) {
			t.Errorf("Seal of %d bytes from %v on has %d bytes and ends with %v", len(b), b[:min(len(b), 4)], len(out), out[max(len(out)-4, 0):])
		}
	}
}

// P3.2
func TestOpen(t *testing.T) {
	for _, c := range []struct {
		b, want string
		e       api.Errno
	}{
		{"123456789\xcb\xf4\x39\x26", "123456789", api.OK},
		{"\x00\x00\x00\x00", "", api.OK},
		{"\x00\xd2\x02\xef\x8d", "\x00", api.OK},
		{"\xff\xff\xff\xff\xff\xff\xff\xff", "\xff\xff\xff\xff", api.OK},
		{"", "", api.ErrShort},
		{"\x00", "", api.ErrShort},
		{"\x00\x00", "", api.ErrShort},
		{"\x00\x00\x00", "", api.ErrShort},
		{"\xcb\xf4\x39", "", api.ErrShort},
		{"\x00\x00\x00\x00\x00", "", api.ErrSum},
		{"\x00\x00\x00\x01", "", api.ErrSum},
		{"\x01\x00\x00\x00", "", api.ErrSum},
		{"\xff\xff\xff\xff", "", api.ErrSum},
		{"123456789\xcb\xf4\x39", "", api.ErrSum},
		{"123456789\x26\x39\xf4\xcb", "", api.ErrSum},
		{"123456789\x34\x0b\xc6\xd9", "", api.ErrSum},
		{"123456789\xcb\xf4\x39\x26\x00", "", api.ErrSum},
		{"\x00123456789\xcb\xf4\x39\x26", "", api.ErrSum},
		{"\xcb\xf4\x39\x26123456789", "", api.ErrSum},
	} {
		if out, e := Open([]byte(c.b)); string(out) != c.want || e != c.e {
			t.Errorf("Open(%q) = %q, %d, want %q, %d", c.b, out, e, c.want, c.e)
		}
	}
	if out, e := Open(nil); len(out) != 0 || e != api.ErrShort {
		t.Errorf("Open(nil) = %v, %d", out, e)
	}
}

// P3.2
func TestOpenInvertsSeal(t *testing.T) {
	for _, b := range contents() {
		if out, e := Open(Seal(b)); !bytes.Equal(out, b) || e != api.OK {
			t.Errorf("Open of the seal of %d bytes from %v on: %d bytes, %d", len(b), b[:min(len(b), 4)], len(out), e)
		}
		twice, _ := Open(Seal(Seal(b)))
		if out, e := Open(twice); !bytes.Equal(out, b) || e != api.OK {
			t.Errorf("%d bytes that are sealed twice: %d bytes, %d", len(b), len(out), e)
		}
	}
}

// P3.2: arbitrary bytes, sealed bytes, and parts of these.
func TestOpenAcceptsOnlySeals(t *testing.T) {
	for _, b := range contents() {
		if len(b) > 4096 {
			continue
		}
		sealed := Seal(b)
		for _, tried := range [][]byte{b, sealed, sealed[1:], sealed[:len(sealed)-1], append(sealed[:len(sealed):len(sealed)], 0)} {
			out, e := Open(tried)
			switch {
			case len(tried) < 4:
				if len(out) != 0 || e != api.ErrShort {
					t.Errorf("Open(%v) = %v, %d", tried, out, e)
				}
			case bytes.Equal(sealOf(tried[:len(tried)-4]), tried):
				if !bytes.Equal(Seal(out), tried) || e != api.OK {
					t.Errorf("Open(%v) = %v, %d", tried, out, e)
				}
			case len(out) != 0 || e != api.ErrSum:
				t.Errorf("Open(%v) = %v, %d", tried, out, e)
			}
		}
	}
}

// P3.2: the memory behind the argument stays as it is, and the results neither share it nor depend on it.
func TestMemoryIsNew(t *testing.T) {
	for _, f := range []func(b []byte) []byte{
		func(b []byte) []byte { return Seal(b) },
		func(b []byte) []byte { out, _ := Open(b); return out },
	} {
		for _, size := range []int{0, 1, 50} {
			sealed := Seal(noise(size, 3))
			memory := append(slices.Clone(sealed), bytes.Repeat([]byte{99}, 100)...)
			before := slices.Clone(memory)
			out := f(memory[:len(sealed)])
			if !bytes.Equal(memory, before) {
				t.Errorf("the memory of %d bytes changed", len(sealed))
			}
			want := slices.Clone(out)
			for i := range memory {
				memory[i] ^= 1
			}
			if !bytes.Equal(out, want) {
				t.Errorf("the result changes with the memory of %d bytes", len(sealed))
			}
			copy(memory, before)
			all := out[:cap(out)]
			for i := range all {
				all[i] ^= 1
			}
			if !bytes.Equal(memory, before) {
				t.Errorf("the memory of %d bytes changes with the result", len(sealed))
			}
		}
	}
}

// P3.1: the functions that return numbers leave their argument as it is.
func TestArgumentIsLeft(t *testing.T) {
	for _, b := range contents() {
		before := slices.Clone(b)
		Crc(b)
		Fnv(b)
		if !bytes.Equal(b, before) {
			t.Errorf("%d bytes from %v on changed", len(b), before[:min(len(b), 4)])
		}
	}
}

// P3.3
func TestContinuation(t *testing.T) {
	for i, b := range contents() {
		for j, n := range numbers() {
			if (i+j)%13 != 0 || len(b) > 4096 {
				continue
			}
			if d := Mix(Fnv(b), n); d != Fnv(slices.Concat(b, bytesOf(n))) {
				t.Errorf("Mix of %d bytes from %v on, and %d: %#x", len(b), b[:min(len(b), 4)], n, d)
			}
		}
	}
	for _, n := range numbers() {
		d := Mix(Mix(Fnv([]byte("abc")), n), -n)
		if d != Fnv(slices.Concat([]byte("abc"), bytesOf(n), bytesOf(-n))) {
			t.Errorf("Mix of %d and of %d: %#x", n, -n, d)
		}
	}
}

// P3.4
func TestLinearity(t *testing.T) {
	for size := range 200 {
		triple := [3][]byte{noise(size, 4), noise(size, 5), noise(size, 6)}
		if size%3 == 1 {
			triple[0] = make([]byte, size)
		}
		if size%5 == 1 {
			triple[1] = bytes.Repeat([]byte{255}, size)
		}
		if size%7 == 1 {
			triple[2] = triple[1]
		}
		mixed := make([]byte, size)
		for i := range mixed {
			mixed[i] = triple[0][i] ^ triple[1][i] ^ triple[2][i]
		}
		if c := Crc(triple[0]) ^ Crc(triple[1]) ^ Crc(triple[2]); c != Crc(mixed) {
			t.Errorf("three strings of %d bytes: %#x, and %#x for their exclusive or", size, c, Crc(mixed))
		}
	}
}

// P3.5
func TestDetection(t *testing.T) {
	for _, b := range [][]byte{
		nil, {0}, {255}, {0, 0, 0, 0}, {255, 255, 255, 255}, []byte("123456789"), make([]byte, 40), noise(64, 7), noise(300, 8),
	} {
		sealed := Seal(b)
		for i, was := range sealed {
			for change := 1; change < 256; change++ {
				sealed[i] = was ^ byte(change)
				if out, e := Open(sealed); len(out) != 0 || e != api.ErrSum {
					t.Fatalf("byte %d of %d became %d: %v, %d", i, len(sealed), sealed[i], out, e)
				}
			}
			sealed[i] = was
		}
	}
}
