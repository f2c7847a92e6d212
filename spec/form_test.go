package spec_test

import (
	"bytes"
	"encoding/binary"
	"math"
	"math/rand"
	"testing"

	"broadside/api"
	"broadside/spec"
	"broadside/wire"
)

// numbers are a contract's as they stand in its form: the natural ones, or such that don't fit their field.
type numbers struct {
	ahead  [6]uint64
	shifts [16]int64
	behind [3]uint64
}

func numbersOf(s api.Spec) numbers {
	return numbers{
		[6]uint64{uint64(s.Number), uint64(s.Route), uint64(s.Tick), uint64(s.Lot), uint64(s.Band), uint64(s.Limit)},
		s.Shifts,
		[3]uint64{uint64(s.Credit), uint64(s.LastDay), uint64(s.First)},
	}
}

// form is the numbers' form, by the library's forms of single numbers, which are layer 2's.
func (n numbers) form() []byte {
	var b []byte
	for _, x := range n.ahead {
		b = binary.AppendUvarint(b, x)
	}
	for _, x := range n.shifts {
		b = binary.AppendVarint(b, x)
	}
	for _, x := range n.behind {
		b = binary.AppendUvarint(b, x)
	}
	return b
}

func plainForm(s api.Spec) []byte { return numbersOf(s).form() }

// chance is a contract that may be, of numbers of all sizes.
func chance(r *rand.Rand) api.Spec {
	upTo := func(most int64) int64 { return r.Int63n(most>>r.Intn(20) + 1) }
	s := api.Spec{
		Number: r.Uint32()>>r.Intn(32) | 1, Route: uint8(1 + r.Intn(8)), Tick: 1 + upTo(9_999), Lot: 1 + upTo(999_999), Band: upTo(10_000_000),
		Limit: 1 + upTo(9_999_999), Credit: upTo(10_000_000), LastDay: r.Uint32() >> r.Intn(32),
	}
	s.First = s.Tick * (1 + upTo(999))
	for i := range s.Shifts {
		s.Shifts[i] = upTo(10_000_000) - upTo(10_000_000)
	}
	s.Shifts[r.Intn(8)] = 1 + upTo(9_999_999)
	s.Shifts[8+r.Intn(8)] = -1 - upTo(9_999_999)
	return s
}

// good are contracts that may be: the ends, and such by chance, the same at each run.
func good() []api.Spec {
	r := rand.New(rand.NewSource(42))
	l := []api.Spec{sample(), smallest(), widest()}
	for range 200 {
		l = append(l, chance(r))
	}
	return l
}

// P4.2: a form written out: the chapter's contract.
func TestFormWrittenOut(t *testing.T) {
	want := []byte{
		1, 1, 5, 10, 100, 0xe8, 7,
		0, 0, 0, 100, 0, 0, 0, 0, 0, 99, 0, 0, 0, 0, 0, 0,
		0, 9, 0xe8, 7,
	}
	if b, e := spec.Bytes(sample()); e != api.OK || !bytes.Equal(b, want) {
		t.Errorf("Bytes: % x, error %d", b, e)
	}
	if s, e := spec.Read(want); e != api.OK || s != sample() {
		t.Errorf("Read: %v, error %d", s, e)
	}
}

// P4.2: what was written is read, by all calls.
func TestThereAndBack(t *testing.T) {
	for _, s := range good() {
		b, e := spec.Bytes(s)
		if e != api.OK || !bytes.Equal(b, plainForm(s)) {
			t.Fatalf("Bytes of %v: % x, error %d", s, b, e)
		}
		if u, e := spec.Read(b); u != s || e != api.OK {
			t.Fatalf("Read of % x: %v, error %d", b, u, e)
		}
		if got := spec.Put(nil, s); !bytes.Equal(got, b) {
			t.Fatalf("Put of %v: % x", s, got)
		}
		r := wire.NewReader(b)
		if u := spec.Take(r); u != s || r.Done() != api.OK {
			t.Fatalf("Take of % x: %v, error %d", b, u, r.Done())
		}
	}
}

// P4.2: data that may not be are neither written nor read.
func TestBadData(t *testing.T) {
	for name, s := range bad() {
		if b, e := spec.Bytes(s); len(b) != 0 || e != api.ErrArg {
			t.Errorf("Bytes, %s: % x, error %d", name, b, e)
		}
		holdNone(t, name, plainForm(s))
		for _, b := range [][]byte{nil, {}, {7}, bytes.Repeat([]byte{0x80}, 300)} {
			if got := spec.Put(b, s); !bytes.Equal(got, b) {
				t.Errorf("Put, %s, behind %d bytes: % x", name, len(b), got)
			}
		}
	}
}

// holdNone: b is no form, though it may begin with one that is whole.
func holdNone(t *testing.T, name string, b []byte) {
	t.Helper()
	if s, e := spec.Read(b); s != (api.Spec{}) || e != api.ErrForm {
		t.Errorf("Read, %s: %v, error %d", name, s, e)
	}
	r := wire.NewReader(b)
	if s := spec.Take(r); s != (api.Spec{}) || r.Done() != api.ErrForm {
		t.Errorf("Take, %s: %v, error %d", name, s, r.Done())
	}
	if r.Nat() != 0 || r.Text(9) != nil {
		t.Errorf("Take, %s: no fault is kept", name)
	}
}

// P4.2, R5: numbers that would be right ones, if they were wrapped.
func TestNumbersThatDoNotFit(t *testing.T) {
	widths := [6]uint64{1 << 32, 1 << 8, 1 << 63, 1 << 63, 1 << 63, 1 << 63}
	for i, width := range widths {
		n := numbersOf(sample())
		n.ahead[i] += width
		holdNone(t, "the number "+string(rune('0'+i)), n.form())
	}
	for i, width := range [3]uint64{1 << 63, 1 << 32, 1 << 63} {
		n := numbersOf(sample())
		n.behind[i] += width
		holdNone(t, "the number "+string(rune('6'+i)), n.form())
	}
	for i := range 16 {
		for _, shift := range []int64{math.MinInt64, math.MaxInt64} {
			n := numbersOf(sample())
			n.shifts[i] = shift
			holdNone(t, "a shift", n.form())
		}
	}
}

// P4.2: bytes that end too early: to Read no form, to a reader what it says of them.
func TestShort(t *testing.T) {
	for _, s := range good()[:20] {
		form := plainForm(s)
		for size := range form {
			if u, e := spec.Read(form[:size]); u != (api.Spec{}) || e != api.ErrForm {
				t.Fatalf("Read of %d bytes of % x: %v, error %d", size, form, u, e)
			}
			r := wire.NewReader(form[:size])
			if u := spec.Take(r); u != (api.Spec{}) || r.Done() != api.ErrShort {
				t.Fatalf("Take of %d bytes of % x: %v, error %d", size, form, u, r.Done())
			}
		}
	}
}

// P4.2: bytes behind a form: Read refuses them, Take leaves them.
func TestBehind(t *testing.T) {
	form := plainForm(sample())
	for _, behind := range [][]byte{{0}, {1}, {0x80}, {0xff, 0xff}, form} {
		b := bytes.Join([][]byte{form, behind}, nil)
		if s, e := spec.Read(b); s != (api.Spec{}) || e != api.ErrForm {
			t.Errorf("Read with % x behind: %v, error %d", behind, s, e)
		}
		r := wire.NewReader(b)
		if s := spec.Take(r); s != sample() || r.Left() != len(behind) {
			t.Errorf("Take with % x behind: %v, %d left", behind, s, r.Left())
		}
	}
}

// P4.2: a second form of a number is none: each byte once as if another digit stood behind it.
func TestLongerForms(t *testing.T) {
	form := plainForm(sample())
	for i, digit := range form {
		if digit >= 0x80 {
			continue
		}
		b := bytes.Join([][]byte{form[:i], {digit + 0x80, 0}, form[i+1:]}, nil)
		holdNone(t, "a last digit 0", b)
	}
}

// P4.2: there is one form: whatever is read, written again, is the bytes that were read.
func TestOneForm(t *testing.T) {
	r := rand.New(rand.NewSource(43))
	read := 0
	for range 50 {
		form := plainForm(chance(r))
		for i := range form {
			for range 20 {
				b := bytes.Clone(form)
				b[i] = byte(r.Intn(256))
				s, e := spec.Read(b)
				if e == api.OK {
					read++
					if back, f := spec.Bytes(s); f != api.OK || !bytes.Equal(back, b) {
						t.Fatalf("% x was read and is written % x, error %d", b, back, f)
					}
				} else if e != api.ErrForm || s != (api.Spec{}) {
					t.Fatalf("Read of % x: %v, error %d", b, s, e)
				}
			}
		}
	}
	if read == 0 {
		t.Error("nothing was read")
	}
	if s, e := spec.Read(nil); s != (api.Spec{}) || e != api.ErrForm {
		t.Errorf("Read of nothing: %v, error %d", s, e)
	}
}

// P4.2: Put stands behind b and leaves it, its room too, alone; what is answered is new.
func TestPut(t *testing.T) {
	for _, c := range []struct {
		name string
		s    api.Spec
		form []byte
	}{{"a form", sample(), plainForm(sample())}, {"none", api.Spec{}, nil}} {
		room := bytes.Repeat([]byte{9}, 100)
		first := spec.Put(room[:3], c.s)
		second := spec.Put(room[:3], c.s)
		want := append([]byte{9, 9, 9}, c.form...)
		if !bytes.Equal(first, want) {
			t.Errorf("Put of %s: % x", c.name, first)
		}
		for i := range first {
			first[i] = 77
		}
		if !bytes.Equal(second, want) || !bytes.Equal(room, bytes.Repeat([]byte{9}, 100)) {
			t.Errorf("Put of %s: the answer is not new", c.name)
		}
	}
}

// P4.2: Take reads at the reader's place, and what stands about it is read by others.
func TestTakeAmongOthers(t *testing.T) {
	b := wire.Text(nil, []byte("ahead"))
	for _, s := range []api.Spec{sample(), widest(), smallest()} {
		b = spec.Put(b, s)
	}
	r := wire.NewReader(wire.Flag(b, true))
	if ahead := r.Text(9); string(ahead) != "ahead" {
		t.Errorf("ahead stands %q", ahead)
	}
	for _, want := range []api.Spec{sample(), widest(), smallest()} {
		if s := spec.Take(r); s != want {
			t.Errorf("Take: %v, want %v", s, want)
		}
	}
	if !r.Flag() || r.Done() != api.OK {
		t.Errorf("behind them: %d left, error %d", r.Left(), r.Done())
	}
}

// P4.2: an elder fault stays, nothing is read, and the data are zero.
func TestTakeBehindAFault(t *testing.T) {
	form := plainForm(sample())
	for _, e := range []api.Errno{api.ErrShort, api.ErrForm, api.ErrLong, api.ErrFull, -1} {
		r := wire.NewReader(form)
		r.Fail(e)
		if s := spec.Take(r); s != (api.Spec{}) || r.Done() != e || r.Left() != len(form) {
			t.Errorf("Take behind %d: %v, error %d, %d left", e, s, r.Done(), r.Left())
		}
	}
}

// P4.2, R1: a reader that is not there, and one that was not made.
func TestTakeOfNoReader(t *testing.T) {
	if s := spec.Take(nil); s != (api.Spec{}) {
		t.Errorf("Take of no reader: %v", s)
	}
	var r wire.Reader
	if s := spec.Take(&r); s != (api.Spec{}) || r.Done() != api.ErrShort {
		t.Errorf("Take of a zero reader: %v, error %d", s, r.Done())
	}
}

// P4.2, R2: what is read from stays as it was, and is not kept.
func TestReadLeavesBytes(t *testing.T) {
	b := plainForm(sample())
	s, _ := spec.Read(b)
	if !bytes.Equal(b, plainForm(sample())) {
		t.Errorf("Read wrote to what it was handed: % x", b)
	}
	clear(b)
	if s != sample() {
		t.Errorf("what was read changes with the bytes: %v", s)
	}
}
