package crc_test

import (
	"bytes"
	"encoding/binary"
	"hash/crc32"
	"math"
	"math/rand"
	"slices"
	"testing"

	"broadside/api"
	"broadside/crc"
)

// cycle is after how many steps each register is what it was.
const cycle = 1<<32 - 1

// stepOf is a step as the chapter's words have it, for a register and a bit.
func stepOf(register, bit uint32) uint32 {
	unlike := (register&1)^bit == 1
	register >>= 1
	if unlike {
		register ^= 0xEDB88320
	}
	return register
}

// plain is the register behind all bits of b, one by one.
func plain(register uint32, b []byte) uint32 {
	for _, n := range b {
		for bit := range 8 {
			register = stepOf(register, uint32(n)>>bit&1)
		}
	}
	return register
}

// plainSum is the sum of b, bit by bit.
func plainSum(b []byte) uint32 { return ^plain(math.MaxUint32, b) }

// some answers so many bytes that are the same at each run.
func some(r *rand.Rand, size int) []byte {
	b := make([]byte, size)
	r.Read(b)
	return b
}

func joined(t *testing.T, a, b uint32, n int) uint32 {
	t.Helper()
	sum, e := crc.Join(a, b, n)
	if e != api.OK {
		t.Fatalf("Join(%x, %x, %d): error %d", a, b, n, e)
	}
	return sum
}

// P3.1: sums written out.
func TestKnown(t *testing.T) {
	for _, c := range []struct {
		text string
		want uint32
	}{
		{"", 0},
		{"\x00", 0xd202ef8d},
		{"\xff", 0xff000000},
		{"a", 0xe8b7be43},
		{"abc", 0x352441c2},
		{"123456789", 0xcbf43926},
		{"\x00\x00\x00\x00", 0x2144df1c},
		{"\xff\xff\xff\xff", 0xffffffff},
		{"The quick brown fox jumps over the lazy dog", 0x414fa339},
	} {
		if got := crc.Sum([]byte(c.text)); got != c.want {
			t.Errorf("Sum(%q): %x, want %x", c.text, got, c.want)
		}
		if got := crc.More(0, []byte(c.text)); got != c.want {
			t.Errorf("More(0, %q): %x, want %x", c.text, got, c.want)
		}
	}
}

// P3.1: nothing, in each shape that it has.
func TestNothing(t *testing.T) {
	for name, got := range map[string]uint32{
		"no part":      crc.Sum(),
		"no list":      crc.Sum([][]byte(nil)...),
		"nil":          crc.Sum(nil),
		"empty":        crc.Sum([]byte{}),
		"many of both": crc.Sum(nil, []byte{}, nil),
	} {
		if got != 0 {
			t.Errorf("%s: %x", name, got)
		}
	}
	for _, sum := range []uint32{0, 1, 0xcbf43926, math.MaxUint32} {
		if crc.More(sum, nil) != sum || crc.More(sum, []byte{}) != sum {
			t.Errorf("More(%x, nothing) is another sum", sum)
		}
	}
}

// P3.1: each single byte, each pair of some, and long texts, against the bits one by one and the library's sum.
func TestSum(t *testing.T) {
	r := rand.New(rand.NewSource(31))
	var texts [][]byte
	for n := range 256 {
		texts = append(texts, []byte{byte(n)}, []byte{byte(n), byte(255 - n)}, some(r, n))
	}
	texts = append(texts, some(r, 4096), some(r, 65537), make([]byte, 1000), bytes.Repeat([]byte{255}, 1000))
	for _, text := range texts {
		want := plainSum(text)
		if want != crc32.ChecksumIEEE(text) {
			t.Fatalf("the test's own sums are unlike for %d bytes", len(text))
		}
		if got := crc.Sum(text); got != want {
			t.Fatalf("Sum of %x: %x, want %x", text, got, want)
		}
	}
}

// P3.1: parts stand one behind the other, however a text is cut, nothing among them.
func TestParts(t *testing.T) {
	r := rand.New(rand.NewSource(32))
	for range 300 {
		text := some(r, r.Intn(200))
		var parts [][]byte
		for rest := text; len(rest) > 0; {
			size := r.Intn(min(len(rest), 40) + 1)
			parts = append(parts, rest[:size])
			rest = rest[size:]
		}
		want := plainSum(text)
		if got := crc.Sum(parts...); got != want {
			t.Fatalf("Sum of %d parts of %x: %x, want %x", len(parts), text, got, want)
		}
		var sum uint32
		for _, part := range parts {
			sum = crc.More(sum, part)
		}
		if sum != want {
			t.Fatalf("More, %d parts of %x: %x, want %x", len(parts), text, sum, want)
		}
	}
	if crc.Sum([]byte("ab"), []byte("c")) == crc.Sum([]byte("c"), []byte("ab")) {
		t.Error("the parts' order counts for nothing")
	}
}

// P3.1: More goes on from any sum at all: there are four bytes that have it.
func TestMoreOfAnySum(t *testing.T) {
	r := rand.New(rand.NewSource(33))
	sums := []uint32{0, 1, 2, 1 << 31, math.MaxUint32, math.MaxUint32 - 1, 0xEDB88320, 0x2144df1c}
	for range 200 {
		sums = append(sums, r.Uint32())
	}
	for _, sum := range sums {
		text := some(r, r.Intn(50))
		want := ^plain(^sum, text)
		if got := crc.More(sum, text); got != want {
			t.Fatalf("More(%x, %x): %x, want %x", sum, text, got, want)
		}
		four := bytesOf(sum)
		if crc.Sum(four) != sum {
			t.Fatalf("%x have another sum than %x", four, sum)
		}
		if got := crc.Sum(four, text); got != want {
			t.Fatalf("Sum(%x, %x): %x, want %x", four, text, got, want)
		}
	}
}

// bytesOf answers four bytes whose sum is sum: the steps are gone back from there to the register at the beginning.
func bytesOf(sum uint32) []byte {
	register := ^sum
	for range 32 {
		if register>>31 == 1 {
			register = (register^0xEDB88320)<<1 | 1
		} else {
			register <<= 1
		}
	}
	return binary.LittleEndian.AppendUint32(nil, ^register)
}

// P3.1: R2, the parts are left as they were.
func TestLeft(t *testing.T) {
	parts := [][]byte{[]byte("abc"), nil, []byte("defg")[:2:4]}
	crc.Sum(parts...)
	crc.More(7, parts[2])
	if string(parts[0]) != "abc" || parts[1] != nil || string(parts[2][:4]) != "defg" {
		t.Errorf("written to: %q", parts)
	}
}

// P3.2: texts cut in two at each place.
func TestJoin(t *testing.T) {
	r := rand.New(rand.NewSource(34))
	for size := range 130 {
		text := some(r, size)
		want := plainSum(text)
		for cut := range size + 1 {
			a, b := crc.Sum(text[:cut]), crc.Sum(text[cut:])
			if got := joined(t, a, b, size-cut); got != want {
				t.Fatalf("Join of %x, cut at %d: %x, want %x", text, cut, got, want)
			}
		}
	}
	if got := joined(t, crc.Sum([]byte("1234")), crc.Sum([]byte("56789")), 5); got != 0xcbf43926 {
		t.Errorf("Join of the example: %x", got)
	}
}

// P3.2: any a, b and n, whether there are such bytes or not.
func TestJoinAny(t *testing.T) {
	r := rand.New(rand.NewSource(35))
	sums := []uint32{0, 1, 1 << 31, math.MaxUint32, 0xEDB88320}
	for range 20 {
		sums = append(sums, r.Uint32())
	}
	sizes := []int{0, 1, 2, 3, 4, 5, 7, 8, 9, 15, 16, 17, 31, 32, 33, 127, 128, 255, 256, 1000, 4095, 4096, 65537}
	for _, a := range sums {
		for _, n := range sizes {
			b := r.Uint32()
			register := plain(a, make([]byte, n))
			if got := joined(t, a, b, n); got != register^b {
				t.Fatalf("Join(%x, %x, %d): %x, want %x", a, b, n, got, register^b)
			}
			if got := joined(t, a, 0, n); got != register {
				t.Fatalf("Join(%x, 0, %d): %x, want %x", a, n, got, register)
			}
		}
	}
}

// P3.2: numbers of bytes that nobody goes through one by one: so many steps over and over are none.
func TestJoinFar(t *testing.T) {
	r := rand.New(rand.NewSource(36))
	for range 50 {
		a, b := r.Uint32(), r.Uint32()
		if got := joined(t, a, b, cycle); got != a^b {
			t.Fatalf("Join(%x, %x, 2^32 - 1): %x, want %x", a, b, got, a^b)
		}
		for _, n := range []int{math.MaxInt, math.MaxInt - 1, 1<<62 + 1, 1 << 61, 1<<61 - 1, 1 << 60, 1 << 32, cycle + 1, cycle - 1, int(r.Int63())} {
			first := int(r.Int63n(int64(n)))
			want := joined(t, joined(t, a, 0, first), b, n-first)
			if got := joined(t, a, b, n); got != want {
				t.Fatalf("Join(%x, %x, %d): %x, want %x", a, b, n, got, want)
			}
			if got := joined(t, a, b, n%cycle); got != want {
				t.Fatalf("Join(%x, %x, %d): %x, want %x", a, b, n%cycle, got, want)
			}
		}
	}
	if got, want := joined(t, 1, 0, cycle+3), plain(1, make([]byte, 3)); got != want {
		t.Errorf("Join(1, 0, 2^32 + 2): %x, want %x", got, want)
	}
}

// P3.2: a number below 0, and nothing beside the error.
func TestJoinWrong(t *testing.T) {
	for _, n := range []int{-1, -2, -8, math.MinInt, math.MinInt + 1} {
		for _, a := range []uint32{0, 1, math.MaxUint32} {
			if sum, e := crc.Join(a, ^a, n); sum != 0 || e != api.ErrArg {
				t.Errorf("Join(%x, %x, %d): %x, error %d", a, ^a, n, sum, e)
			}
		}
	}
	if sum, e := crc.Join(5, 6, 0); sum != 5^6 || e != api.OK {
		t.Errorf("Join(5, 6, 0): %x, error %d", sum, e)
	}
}

// turnedBits answers text with the bits of mask turned, from the bit at on.
func turnedBits(text []byte, at int, mask uint32) []byte {
	b := slices.Clone(text)
	for i := range 32 {
		if mask>>i&1 == 1 {
			b[(at+i)/8] ^= 1 << ((at + i) % 8)
		}
	}
	return b
}

// P3.3: texts that differ in a burst of at most 32 bits have unlike sums, and one bit more may be too much.
func TestBursts(t *testing.T) {
	r := rand.New(rand.NewSource(37))
	for range 200 {
		text := some(r, 5+r.Intn(60))
		sum := crc.Sum(text)
		for range 200 {
			at := r.Intn(len(text)*8 - 31)
			other := turnedBits(text, at, r.Uint32()>>r.Intn(32)|1)
			if crc.Sum(other) == sum {
				t.Fatalf("%x and %x: one sum", text, other)
			}
		}
		for at := range len(text) * 8 {
			other := slices.Clone(text)
			other[at/8] ^= 1 << (at % 8)
			if crc.Sum(other) == sum {
				t.Fatalf("%x and %x: one sum", text, other)
			}
		}
		// All 33 bits of what is added by a step, as they lie in a text.
		last := turnedBits(turnedBits(text, 3, 0xDB710641), 3+32, 1)
		if got := crc.Sum(last); got != sum {
			t.Fatalf("%x and %x: %x and %x, which 33 bits leave alike", text, last, got, sum)
		}
	}
}

// P3.3: sums are added like texts, three at a time.
func TestAdded(t *testing.T) {
	r := rand.New(rand.NewSource(38))
	for size := range 300 {
		a, b, c, all := some(r, size), some(r, size), some(r, size), make([]byte, size)
		for i := range all {
			all[i] = a[i] ^ b[i] ^ c[i]
		}
		if got, want := crc.Sum(a)^crc.Sum(b)^crc.Sum(c), crc.Sum(all); got != want {
			t.Fatalf("three sums of %d bytes: %x, want %x", size, got, want)
		}
	}
}

// P3.4: a text, and behind it its own sum, the lowest byte first.
func TestOwnSum(t *testing.T) {
	r := rand.New(rand.NewSource(39))
	for size := range 300 {
		text := some(r, size)
		four := binary.LittleEndian.AppendUint32(nil, crc.Sum(text))
		if got := crc.Sum(text, four); got != 0x2144df1c {
			t.Fatalf("Sum of %x and its own sum: %x", text, got)
		}
		if got := crc.More(crc.Sum(text), four); got != 0x2144df1c {
			t.Fatalf("More of %x and its own sum: %x", text, got)
		}
		slices.Reverse(four)
		if four[0] != four[3] && crc.Sum(text, four) == 0x2144df1c {
			t.Fatalf("Sum of %x and its own sum, the highest byte first, is the same", text)
		}
	}
}
