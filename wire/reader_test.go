package wire_test

import (
	"bytes"
	"math"
	"math/big"
	"math/rand"
	"slices"
	"testing"

	"broadside/api"
	"broadside/wire"
)

// told is what a call answers; just that field counts that it answers.
type told struct {
	n uint64
	i int64
	f bool
	b []byte
}

func (x told) same(y told) bool {
	return x.n == y.n && x.i == y.i && x.f == y.f && bytes.Equal(x.b, y.b)
}

type call func(r *wire.Reader) told

func nat(r *wire.Reader) told   { return told{n: r.Nat()} }
func whole(r *wire.Reader) told { return told{i: r.Int()} }
func flag(r *wire.Reader) told  { return told{f: r.Flag()} }

func small(most uint64) call { return func(r *wire.Reader) told { return told{n: r.Small(most)} } }
func text(most int) call     { return func(r *wire.Reader) told { return told{b: r.Text(most)} } }

// repeated is a byte so many times, and others behind it.
func repeated(b byte, times int, behind ...byte) []byte {
	return append(bytes.Repeat([]byte{b}, times), behind...)
}

// readCase is what a reader of these bytes answers at first, how many bytes are left behind that, and the fault.
type readCase struct {
	name string
	b    []byte
	call call
	want told
	left int
	e    api.Errno
}

func (c readCase) hold(t *testing.T) {
	t.Helper()
	r := wire.NewReader(c.b)
	got := c.call(r)
	if !got.same(c.want) || r.Left() != c.left {
		t.Errorf("%s, % x: %v, %d left; want %v, %d left", c.name, c.b, got, r.Left(), c.want, c.left)
	}
	want := c.e
	if c.e == api.OK && c.left > 0 {
		want = api.ErrForm
	}
	if e := r.Done(); e != want {
		t.Errorf("%s, % x: done %d; want %d", c.name, c.b, e, want)
	}
	if c.e != api.OK {
		holdStopped(t, c.name, r, c.left, c.e)
	}
}

// holdStopped: all calls answer nothing, the place stays, and so does the fault, whatever else is wrong with what is asked.
func holdStopped(t *testing.T, name string, r *wire.Reader, left int, e api.Errno) {
	t.Helper()
	calls := []call{nat, whole, flag, small(0), small(math.MaxUint64), text(0), text(math.MaxInt), text(-1)}
	for i, c := range calls {
		if got := c(r); !got.same(told{}) {
			t.Errorf("%s: the call %d answers %v behind a fault", name, i, got)
		}
		r.Fail(api.ErrFull)
		r.Fail(api.OK)
		if r.Left() != left || r.Done() != e {
			t.Errorf("%s: behind the call %d %d left, done %d; want %d, %d", name, i, r.Left(), r.Done(), left, e)
		}
	}
}

// P2.2, P2.3: natural numbers that are read.
func TestNat(t *testing.T) {
	for _, c := range []readCase{
		{"0", []byte{0}, nat, told{}, 0, api.OK},
		{"127", []byte{0x7f}, nat, told{n: 127}, 0, api.OK},
		{"128", []byte{0x80, 1}, nat, told{n: 128}, 0, api.OK},
		{"300", []byte{0xac, 2}, nat, told{n: 300}, 0, api.OK},
		{"0, and 0 behind it", []byte{0, 0}, nat, told{}, 1, api.OK},
		{"5, and others behind it", []byte{5, 0x80, 0}, nat, told{n: 5}, 2, api.OK},
		{"a digit 0 within", []byte{0x80, 0x80, 1}, nat, told{n: 1 << 14}, 0, api.OK},
		{"2^63", repeated(0x80, 9, 1), nat, told{n: 1 << 63}, 0, api.OK},
		{"2^64 - 1", repeated(0xff, 9, 1), nat, told{n: math.MaxUint64}, 0, api.OK},
		{"2^64 - 1, and others", repeated(0xff, 9, 1, 1, 1), nat, told{n: math.MaxUint64}, 2, api.OK},
		{"2^63 - 1", repeated(0xff, 8, 0x7f), nat, told{n: math.MaxInt64}, 0, api.OK},
	} {
		c.hold(t)
	}
}

// natFaults are bytes that begin with no natural number's form.
var natFaults = []struct {
	name string
	b    []byte
	e    api.Errno
}{
	{"no bytes", nil, api.ErrShort},
	{"an empty list", []byte{}, api.ErrShort},
	{"one digit, the end", []byte{0x80}, api.ErrShort},
	{"one digit of ones, the end", []byte{0xff}, api.ErrShort},
	{"two digits, the end", []byte{0xac, 0x82}, api.ErrShort},
	{"nine digits, the end", repeated(0xff, 9), api.ErrShort},
	{"nine digits 0, the end", repeated(0x80, 9), api.ErrShort},
	{"a last digit 0", []byte{0x80, 0}, api.ErrForm},
	{"a last digit 0 behind another", []byte{0xac, 0}, api.ErrForm},
	{"a last digit 0, and others", []byte{0x80, 0, 5, 5}, api.ErrForm},
	{"a last digit 0 behind two", []byte{0x81, 0x80, 0}, api.ErrForm},
	{"a last digit 0 behind nine", repeated(0x80, 9, 0), api.ErrForm},
	{"a last digit 0 behind nine of ones", repeated(0xff, 9, 0), api.ErrForm},
	{"2^64", repeated(0x80, 9, 2), api.ErrForm},
	{"2^64 + 2^63", repeated(0x80, 9, 3), api.ErrForm},
	{"just below 2^70", repeated(0xff, 9, 0x7f), api.ErrForm},
	{"ten digits, and no end", repeated(0x80, 10), api.ErrForm},
	{"ten digits of ones, and no end", repeated(0xff, 10), api.ErrForm},
	{"ten digits, the last would fit", repeated(0x80, 9, 0x81), api.ErrForm},
	{"eleven digits", repeated(0x80, 10, 1), api.ErrForm},
	{"eleven digits, the last 0", repeated(0x80, 10, 0), api.ErrForm},
	{"eleven digits, the tenth would fit", repeated(0x80, 9, 0x81, 1), api.ErrForm},
	{"eleven digits, the tenth would fit, the last 0", repeated(0x80, 9, 0x81, 0), api.ErrForm},
	{"many digits", repeated(0xff, 500, 1), api.ErrForm},
	{"many digits, and no end", repeated(0xff, 500), api.ErrForm},
}

// P2.2, P2.3: all that read a natural number fail as Nat does.
func TestNumberFaults(t *testing.T) {
	for _, f := range natFaults {
		for _, c := range []struct {
			name string
			call call
		}{
			{"Nat", nat}, {"Int", whole}, {"Small", small(math.MaxUint64)}, {"Small of 0", small(0)},
			{"Text", text(math.MaxInt)}, {"Text of 0", text(0)}, {"Text of -1", text(-1)},
		} {
			readCase{c.name + ": " + f.name, f.b, c.call, told{}, len(f.b), f.e}.hold(t)
		}
	}
}

// P2.2: numbers up to the greatest that is asked for, and above it.
func TestSmall(t *testing.T) {
	for _, c := range []readCase{
		{"0 of 0", []byte{0}, small(0), told{}, 0, api.OK},
		{"1 of 0", []byte{1}, small(0), told{}, 1, api.ErrForm},
		{"5 of 5", []byte{5}, small(5), told{n: 5}, 0, api.OK},
		{"4 of 5", []byte{4, 9}, small(5), told{n: 4}, 1, api.OK},
		{"6 of 5", []byte{6, 9}, small(5), told{}, 2, api.ErrForm},
		{"128 of 127", []byte{0x80, 1}, small(127), told{}, 2, api.ErrForm},
		{"128 of 128", []byte{0x80, 1}, small(128), told{n: 128}, 0, api.OK},
		{"2^63 of 2^63 - 1", repeated(0x80, 9, 1), small(math.MaxInt64), told{}, 10, api.ErrForm},
		{"2^63 of 2^63", repeated(0x80, 9, 1), small(1 << 63), told{n: 1 << 63}, 0, api.OK},
		{"2^64 - 1 of one less", repeated(0xff, 9, 1), small(math.MaxUint64 - 1), told{}, 10, api.ErrForm},
		{"2^64 - 1 of it", repeated(0xff, 9, 1), small(math.MaxUint64), told{n: math.MaxUint64}, 0, api.OK},
	} {
		c.hold(t)
	}
}

// P2.2: whole numbers.
func TestInt(t *testing.T) {
	for _, c := range []readCase{
		{"0", []byte{0}, whole, told{}, 0, api.OK},
		{"-1", []byte{1}, whole, told{i: -1}, 0, api.OK},
		{"1", []byte{2}, whole, told{i: 1}, 0, api.OK},
		{"-2", []byte{3, 7}, whole, told{i: -2}, 1, api.OK},
		{"-64", []byte{0x7f}, whole, told{i: -64}, 0, api.OK},
		{"64", []byte{0x80, 1}, whole, told{i: 64}, 0, api.OK},
		{"-2^63", repeated(0xff, 9, 1), whole, told{i: math.MinInt64}, 0, api.OK},
		{"2^63 - 1", append([]byte{0xfe}, repeated(0xff, 8, 1)...), whole, told{i: math.MaxInt64}, 0, api.OK},
	} {
		c.hold(t)
	}
}

// P2.2: a flag is one of two bytes.
func TestFlag(t *testing.T) {
	for _, c := range []readCase{
		{"no", []byte{0}, flag, told{}, 0, api.OK},
		{"yes", []byte{1}, flag, told{f: true}, 0, api.OK},
		{"no, and others", []byte{0, 1}, flag, told{}, 1, api.OK},
		{"yes, and others", []byte{1, 0, 0}, flag, told{f: true}, 2, api.OK},
		{"no byte", nil, flag, told{}, 0, api.ErrShort},
		{"an empty list", []byte{}, flag, told{}, 0, api.ErrShort},
	} {
		c.hold(t)
	}
	for b := 2; b < 256; b++ {
		readCase{"neither", []byte{byte(b), 1}, flag, told{}, 2, api.ErrForm}.hold(t)
	}
}

// P2.2: texts up to the length that is asked for; a length that is too great comes ahead of bytes that are not there.
func TestText(t *testing.T) {
	long := bytes.Repeat([]byte{'x', 0}, 100)
	for _, c := range []readCase{
		{"none of 0", []byte{0}, text(0), told{}, 0, api.OK},
		{"none of -1", []byte{0}, text(-1), told{}, 0, api.OK},
		{"none of the least", []byte{0, 4}, text(math.MinInt), told{}, 1, api.OK},
		{"none of many", []byte{0, 4}, text(50), told{}, 1, api.OK},
		{"ab of 2", []byte{2, 'a', 'b'}, text(2), told{b: []byte("ab")}, 0, api.OK},
		{"ab of 3", []byte{2, 'a', 'b', 'c'}, text(3), told{b: []byte("ab")}, 1, api.OK},
		{"ab of any", []byte{2, 'a', 'b'}, text(math.MaxInt), told{b: []byte("ab")}, 0, api.OK},
		{"two hundred of 200", append([]byte{0xc8, 1}, long...), text(200), told{b: long}, 0, api.OK},
		{"ab of 1", []byte{2, 'a', 'b'}, text(1), told{}, 3, api.ErrLong},
		{"a of 0", []byte{1, 'a'}, text(0), told{}, 2, api.ErrLong},
		{"a of -1", []byte{1, 'a'}, text(-1), told{}, 2, api.ErrLong},
		{"a of -2", []byte{1, 'a'}, text(-2), told{}, 2, api.ErrLong},
		{"a of the least", []byte{1, 'a'}, text(math.MinInt), told{}, 2, api.ErrLong},
		{"two hundred of 199", append([]byte{0xc8, 1}, long...), text(199), told{}, 202, api.ErrLong},
		{"too long, and not there", []byte{2}, text(1), told{}, 1, api.ErrLong},
		{"not there", []byte{1}, text(1), told{}, 1, api.ErrShort},
		{"one byte less", []byte{2, 'a'}, text(2), told{}, 2, api.ErrShort},
		{"one byte less, at any", []byte{2, 'a'}, text(math.MaxInt), told{}, 2, api.ErrShort},
		{"all but one of 200", append([]byte{0xc8, 1}, long[1:]...), text(200), told{}, 201, api.ErrShort},
		{"2^63 of as many as may be asked", repeated(0x80, 9, 1), text(math.MaxInt), told{}, 10, api.ErrLong},
		{"2^63 - 1 of it", repeated(0xff, 8, 0x7f), text(math.MaxInt), told{}, 9, api.ErrShort},
		{"2^64 - 1", repeated(0xff, 9, 1), text(math.MaxInt), told{}, 10, api.ErrLong},
		{"2^64 - 1 of -1", repeated(0xff, 9, 1), text(-1), told{}, 10, api.ErrLong},
	} {
		c.hold(t)
	}
}

// P2.2, P2.3: calls go on where the last one ended; a fault stops them there, ahead of what it could not read.
func TestPlace(t *testing.T) {
	b := []byte{0xac, 2, 3, 1, 2, 'a', 'b', 0, 9, 7, 'z'}
	r := wire.NewReader(b)
	for i, c := range []struct {
		call call
		want told
		left int
	}{
		{nat, told{n: 300}, 9},
		{whole, told{i: -2}, 8},
		{flag, told{f: true}, 7},
		{text(2), told{b: []byte("ab")}, 4},
		{text(2), told{}, 3},
		{small(9), told{n: 9}, 2},
	} {
		if got := c.call(r); !got.same(c.want) || r.Left() != c.left {
			t.Errorf("the call %d: %v, %d left; want %v, %d", i, got, r.Left(), c.want, c.left)
		}
	}
	if got := r.Text(8); len(got) != 0 || r.Left() != 2 || r.Done() != api.ErrShort {
		t.Errorf("a text that is cut: %q, %d left, done %d", got, r.Left(), r.Done())
	}
	holdStopped(t, "behind others", r, 2, api.ErrShort)
}

// P2.3: each word of the reading's as the first fault stays, though what stands there could be read otherwise.
func TestFirstFaultStays(t *testing.T) {
	for _, c := range []readCase{
		{"ErrForm of Small", []byte{1, 1, 1}, small(0), told{}, 3, api.ErrForm},
		{"ErrForm of Flag", []byte{2, 1, 1}, flag, told{}, 3, api.ErrForm},
		{"ErrLong of Text", []byte{1, 1, 1}, text(0), told{}, 3, api.ErrLong},
		{"ErrShort of Text", []byte{3, 1, 1}, text(3), told{}, 3, api.ErrShort},
	} {
		c.hold(t)
	}
}

// P2.3: Fail makes a fault of any number but OK, once.
func TestFail(t *testing.T) {
	for _, e := range []api.Errno{api.ErrNil, api.ErrArg, api.ErrForm, api.ErrTwice, api.ErrOn, 1000, -1, math.MinInt} {
		r := wire.NewReader([]byte{5, 1})
		r.Fail(api.OK)
		if n := r.Nat(); n != 5 {
			t.Errorf("behind Fail of OK: %d", n)
		}
		r.Fail(e)
		holdStopped(t, "Fail", r, 1, e)
	}
	r := wire.NewReader(nil)
	r.Fail(api.OK)
	if e := r.Done(); e != api.OK {
		t.Errorf("Fail of OK: done %d", e)
	}
	r.Fail(api.ErrFull)
	holdStopped(t, "Fail without bytes", r, 0, api.ErrFull)
}

// P2.3: Done tells that bytes are left, and is no fault itself.
func TestDone(t *testing.T) {
	r := wire.NewReader([]byte{1, 0})
	for left := 2; left > 0; left-- {
		if r.Done() != api.ErrForm || r.Done() != api.ErrForm || r.Left() != left {
			t.Errorf("%d left: done %d", r.Left(), r.Done())
		}
		if f := r.Flag(); f != (left == 2) {
			t.Errorf("behind Done: %v", f)
		}
	}
	if r.Left() != 0 || r.Done() != api.OK || r.Done() != api.OK {
		t.Errorf("all read: %d left, done %d", r.Left(), r.Done())
	}
	if n := r.Nat(); n != 0 || r.Done() != api.ErrShort {
		t.Errorf("behind the end: %d, done %d", n, r.Done())
	}
	for _, b := range [][]byte{nil, {}} {
		if e := wire.NewReader(b).Done(); e != api.OK {
			t.Errorf("no bytes: done %d", e)
		}
	}
}

// P2.3: a reader that is not there, and a zero one.
func TestNoReader(t *testing.T) {
	holdStopped(t, "nil", nil, 0, api.ErrNil)
	var zero wire.Reader
	if zero.Left() != 0 || zero.Done() != api.OK {
		t.Errorf("a zero reader: %d left, done %d", zero.Left(), zero.Done())
	}
	if got := zero.Text(5); len(got) != 0 {
		t.Errorf("a zero reader reads %q", got)
	}
	holdStopped(t, "zero", &zero, 0, api.ErrShort)
}

// P2.2, R2: a reader keeps no bytes that were handed in, and a text is a copy.
func TestReaderCopies(t *testing.T) {
	b := []byte{2, 'a', 'b', 2, 'c', 'd', 1}
	r, other := wire.NewReader(b), wire.NewReader(b)
	for i := range b {
		b[i] = 0xff
	}
	first := r.Text(2)
	if !bytes.Equal(first, []byte("ab")) {
		t.Errorf("bytes that were written over are read: % x", first)
	}
	// As far as its room goes: a text's room must not be the reader's bytes either.
	for i := range first[:cap(first)] {
		first[:cap(first)][i] = 0x80
	}
	if second := r.Text(2); !bytes.Equal(second, []byte("cd")) || !r.Flag() || r.Done() != api.OK {
		t.Errorf("behind a text that was written over: % x, done %d", second, r.Done())
	}
	if again := other.Text(2); !bytes.Equal(again, []byte("ab")) {
		t.Errorf("another reader of the same bytes: % x", again)
	}
	if !bytes.Equal(b, repeated(0xff, 7)) {
		t.Errorf("a reader wrote to what it was handed: % x", b)
	}
}

// plainRead is what the chapter's words say of a natural number's form at the start of b: which number, how many bytes, which fault.
func plainRead(b []byte) (uint64, int, api.Errno) {
	last := slices.IndexFunc(b, func(digit byte) bool { return digit < 128 })
	if last < 0 && len(b) < 10 {
		return 0, 0, api.ErrShort
	}
	if last < 0 || last > 9 || last > 0 && b[last] == 0 {
		return 0, 0, api.ErrForm
	}
	n := new(big.Int)
	for i := last; i >= 0; i-- {
		n.Lsh(n, 7).Add(n, big.NewInt(int64(b[i]&127)))
	}
	if !n.IsUint64() {
		return 0, 0, api.ErrForm
	}
	return n.Uint64(), last + 1, api.OK
}

// holdNat holds Nat at some bytes against the chapter's words; what was read, written again, is the bytes that were read.
func holdNat(t *testing.T, b []byte) {
	t.Helper()
	n, size, e := plainRead(b)
	readCase{"Nat", b, nat, told{n: n}, len(b) - size, e}.hold(t)
	if e == api.OK && !bytes.Equal(wire.Nat(nil, n), b[:size]) {
		t.Errorf("% x is read as %d, which has another form", b[:size], n)
	}
}

// P2.2: all bytes, all pairs of bytes, and longer rows at which a form's end turns.
func TestNatOfAllBytes(t *testing.T) {
	holdNat(t, nil)
	for x := range 256 {
		holdNat(t, []byte{byte(x)})
		for y := range 256 {
			holdNat(t, []byte{byte(x), byte(y)})
		}
	}
	digits := []byte{0x80, 0x81, 0xff, 0xfe, 0, 1, 2, 0x7f}
	r := rand.New(rand.NewSource(3))
	seen := map[api.Errno]int{}
	for range 20000 {
		b := make([]byte, r.Intn(13))
		for i := range b {
			// Mostly such as go on, so that the rows get long.
			b[i] = digits[r.Intn(4)]
			if r.Intn(12) == 0 {
				b[i] = digits[r.Intn(len(digits))]
			}
		}
		if len(b) > 0 && r.Intn(2) == 0 {
			b[len(b)-1] = digits[4+r.Intn(4)]
		}
		holdNat(t, b)
		_, _, e := plainRead(b)
		seen[e]++
	}
	for _, e := range []api.Errno{api.OK, api.ErrShort, api.ErrForm} {
		if seen[e] < 1000 {
			t.Errorf("only %d rows of 20000 are %d", seen[e], e)
		}
	}
}

// What follows: what was written is read by the same calls, and nothing is left; and a row that is cut anywhere is short there.
func TestWrittenIsRead(t *testing.T) {
	next := chance(4)
	r := rand.New(rand.NewSource(5))
	for range 300 {
		var b []byte
		var calls []call
		var wants []told
		for range 1 + r.Intn(12) {
			n := next()
			switch r.Intn(5) {
			case 0:
				b, calls, wants = wire.Nat(b, n), append(calls, nat), append(wants, told{n: n})
			case 1:
				b, calls, wants = wire.Int(b, int64(n)), append(calls, whole), append(wants, told{i: int64(n)})
			case 2:
				b, calls, wants = wire.Flag(b, n%2 == 0), append(calls, flag), append(wants, told{f: n%2 == 0})
			case 3:
				b, calls, wants = wire.Nat(b, n), append(calls, small(n)), append(wants, told{n: n})
			case 4:
				x := bytes.Repeat([]byte{byte(n)}, int(n%200))
				b, calls, wants = wire.Text(b, x), append(calls, text(len(x))), append(wants, told{b: x})
			}
		}
		reader := wire.NewReader(b)
		for i, c := range calls {
			if got := c(reader); !got.same(wants[i]) {
				t.Fatalf("% x: the call %d answers %v; want %v", b, i, got, wants[i])
			}
		}
		if reader.Done() != api.OK || reader.Left() != 0 {
			t.Fatalf("% x: %d left, done %d", b, reader.Left(), reader.Done())
		}
		for cut := range b {
			reader := wire.NewReader(b[:cut])
			for _, c := range calls {
				c(reader)
			}
			if e := reader.Done(); e != api.ErrShort {
				t.Fatalf("% x, cut at %d: done %d", b, cut, e)
			}
		}
	}
}

// What follows, P2.2: whole numbers at their edges come back.
func TestIntsComeBack(t *testing.T) {
	for _, n := range ints() {
		readCase{"Int", wire.Int(nil, n), whole, told{i: n}, 0, api.OK}.hold(t)
	}
	for _, n := range nats() {
		readCase{"Nat", wire.Nat(nil, n), nat, told{n: n}, 0, api.OK}.hold(t)
	}
}
