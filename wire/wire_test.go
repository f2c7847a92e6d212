package wire_test

import (
	"bytes"
	"encoding/binary"
	"math"
	"math/big"
	"math/rand"
	"testing"

	"broadside/wire"
)

// nats are the numbers at which a form gets longer, and their neighbours.
func nats() []uint64 {
	l := []uint64{0, 1, 2, 63, 64, 255, 256, 300, math.MaxUint64 - 1, math.MaxUint64, math.MaxInt64, 1 << 62}
	for shift := 7; shift < 64; shift += 7 {
		l = append(l, 1<<shift-1, 1<<shift, 1<<shift+1)
	}
	return l
}

// ints are the whole numbers at which a form gets longer or the sign turns, and their neighbours.
func ints() []int64 {
	l := []int64{0, 1, -1, 2, -2, 300, -300, math.MaxInt64, math.MaxInt64 - 1, math.MinInt64, math.MinInt64 + 1}
	for shift := 6; shift < 63; shift += 7 {
		for d := int64(-2); d <= 2; d++ {
			l = append(l, 1<<shift+d, -1<<shift+d)
		}
	}
	return l
}

// chance is a row of numbers of all sizes that is the same at each run.
func chance(seed int64) func() uint64 {
	r := rand.New(rand.NewSource(seed))
	return func() uint64 { return r.Uint64() >> r.Intn(64) }
}

// plainNat is a natural number's form as the chapter's words have it, by numbers that always fit.
func plainNat(n *big.Int) []byte {
	var form []byte
	base := big.NewInt(128)
	for rest := new(big.Int).Set(n); ; {
		digit := new(big.Int)
		rest.DivMod(rest, base, digit)
		if rest.Sign() == 0 {
			return append(form, byte(digit.Int64()))
		}
		form = append(form, byte(digit.Int64()+128))
	}
}

// plainInt is a whole number's form: that of 2 n, or of -2 n - 1.
func plainInt(n int64) []byte {
	twice := new(big.Int).Lsh(big.NewInt(n), 1)
	if n < 0 {
		twice.Neg(twice).Sub(twice, big.NewInt(1))
	}
	return plainNat(twice)
}

// P2.1: forms written out.
func TestForms(t *testing.T) {
	for _, c := range []struct {
		name      string
		got, want []byte
	}{
		{"Nat 0", wire.Nat(nil, 0), []byte{0}},
		{"Nat 1", wire.Nat(nil, 1), []byte{1}},
		{"Nat 127", wire.Nat(nil, 127), []byte{0x7f}},
		{"Nat 128", wire.Nat(nil, 128), []byte{0x80, 1}},
		{"Nat 300", wire.Nat(nil, 300), []byte{0xac, 2}},
		{"Nat 16383", wire.Nat(nil, 16383), []byte{0xff, 0x7f}},
		{"Nat 16384", wire.Nat(nil, 16384), []byte{0x80, 0x80, 1}},
		{"Nat 2^63", wire.Nat(nil, 1<<63), []byte{0x80, 0x80, 0x80, 0x80, 0x80, 0x80, 0x80, 0x80, 0x80, 1}},
		{"Nat 2^64 - 1", wire.Nat(nil, math.MaxUint64), []byte{0xff, 0xff, 0xff, 0xff, 0xff, 0xff, 0xff, 0xff, 0xff, 1}},
		{"Int 0", wire.Int(nil, 0), []byte{0}},
		{"Int -1", wire.Int(nil, -1), []byte{1}},
		{"Int 1", wire.Int(nil, 1), []byte{2}},
		{"Int -2", wire.Int(nil, -2), []byte{3}},
		{"Int 63", wire.Int(nil, 63), []byte{0x7e}},
		{"Int -64", wire.Int(nil, -64), []byte{0x7f}},
		{"Int 64", wire.Int(nil, 64), []byte{0x80, 1}},
		{"Int 2^63 - 1", wire.Int(nil, math.MaxInt64), []byte{0xfe, 0xff, 0xff, 0xff, 0xff, 0xff, 0xff, 0xff, 0xff, 1}},
		{"Int -2^63", wire.Int(nil, math.MinInt64), []byte{0xff, 0xff, 0xff, 0xff, 0xff, 0xff, 0xff, 0xff, 0xff, 1}},
		{"Flag no", wire.Flag(nil, false), []byte{0}},
		{"Flag yes", wire.Flag(nil, true), []byte{1}},
		{"Text none", wire.Text(nil, nil), []byte{0}},
		{"Text empty", wire.Text(nil, []byte{}), []byte{0}},
		{"Text ab", wire.Text(nil, []byte("ab")), []byte{2, 'a', 'b'}},
		{"Text of any bytes", wire.Text(nil, []byte{0, 0xff, 0x80}), []byte{3, 0, 0xff, 0x80}},
	} {
		if !bytes.Equal(c.got, c.want) {
			t.Errorf("%s: % x; want % x", c.name, c.got, c.want)
		}
	}
}

// P2.1: numbers of all sizes against the chapter's words.
func TestNumberForms(t *testing.T) {
	l := nats()
	for next := chance(1); len(l) < 5000; {
		l = append(l, next())
	}
	for _, n := range l {
		want := plainNat(new(big.Int).SetUint64(n))
		if got := wire.Nat(nil, n); !bytes.Equal(got, want) || !bytes.Equal(got, binary.AppendUvarint(nil, n)) {
			t.Errorf("Nat(%d): % x; want % x", n, got, want)
		}
	}
	whole := ints()
	for next := chance(2); len(whole) < 5000; {
		n := int64(next())
		whole = append(whole, n, -n)
	}
	for _, n := range whole {
		if got, want := wire.Int(nil, n), plainInt(n); !bytes.Equal(got, want) {
			t.Errorf("Int(%d): % x; want % x", n, got, want)
		}
	}
}

// P2.1: texts at whose lengths the number in front gets longer.
func TestTextForms(t *testing.T) {
	for _, size := range []int{0, 1, 2, 126, 127, 128, 129, 300, 16383, 16384, 70000} {
		text := bytes.Repeat([]byte{0xfe, 0, 'x'}, size/3+1)[:size]
		want := append(plainNat(big.NewInt(int64(size))), text...)
		if got := wire.Text(nil, text); !bytes.Equal(got, want) {
			t.Errorf("a text of %d bytes has %d bytes, beginning with % x", size, len(got), got[:min(len(got), 5)])
		}
	}
}

// writers are the four functions, each with something to write, and its form.
var writers = []struct {
	name  string
	write func(b []byte) []byte
	form  []byte
}{
	{"Nat", func(b []byte) []byte { return wire.Nat(b, 300) }, []byte{0xac, 2}},
	{"Int", func(b []byte) []byte { return wire.Int(b, -300) }, []byte{0xd7, 4}},
	{"Flag no", func(b []byte) []byte { return wire.Flag(b, false) }, []byte{0}},
	{"Flag yes", func(b []byte) []byte { return wire.Flag(b, true) }, []byte{1}},
	{"Text", func(b []byte) []byte { return wire.Text(b, []byte("abc")) }, []byte{3, 'a', 'b', 'c'}},
	{"Text none", func(b []byte) []byte { return wire.Text(b, nil) }, []byte{0}},
}

// P2.1: b stands ahead of the form, whatever it is.
func TestFormsStandBehind(t *testing.T) {
	for _, w := range writers {
		for _, b := range [][]byte{nil, {}, {7}, {0x80}, bytes.Repeat([]byte{0xff, 0}, 500)} {
			want := append(bytes.Clone(b), w.form...)
			if got := w.write(b); !bytes.Equal(got, want) {
				t.Errorf("%s behind %d bytes: % x", w.name, len(b), got)
			}
		}
	}
}

// P2.1, R2: b stays as it was, also the room behind it; what is answered shares no bytes with it, nor with another answer.
func TestFormsAreNew(t *testing.T) {
	for _, w := range writers {
		room := bytes.Repeat([]byte{9}, 64)
		b := room[:3]
		first := w.write(b)
		want := append([]byte{9, 9, 9}, w.form...)
		for i := range b {
			b[i] = 5
		}
		second := w.write(b)
		if !bytes.Equal(first, want) {
			t.Errorf("%s: an answer changes with what was handed in: % x", w.name, first)
		}
		for i := range first {
			first[i] = 77
		}
		if !bytes.Equal(second, append([]byte{5, 5, 5}, w.form...)) {
			t.Errorf("%s: an answer changes with another one: % x", w.name, second)
		}
		if !bytes.Equal(room, append([]byte{5, 5, 5}, bytes.Repeat([]byte{9}, 61)...)) {
			t.Errorf("%s wrote to what it was handed: % x", w.name, room)
		}
	}
}

// P2.1, R2: a text stays as it was and is not kept, also where it is the very bytes that it is written behind.
func TestTextIsCopied(t *testing.T) {
	text := []byte("abcdef")
	got := wire.Text(nil, text[:4])
	both := wire.Text(text[:2], text[1:4])
	if !bytes.Equal(text, []byte("abcdef")) {
		t.Errorf("Text wrote to what it was handed: %q", text)
	}
	copy(text, "xxxxxx")
	if !bytes.Equal(got, []byte{4, 'a', 'b', 'c', 'd'}) {
		t.Errorf("the form changes with the text: % x", got)
	}
	if !bytes.Equal(both, []byte{'a', 'b', 3, 'b', 'c', 'd'}) {
		t.Errorf("a text behind its own bytes: % x", both)
	}
}
