package wire

import (
	"math"
	"slices"

	"broadside/api"
)

// Reader reads forms, one behind the other, up to its first fault.
type Reader struct {
	rest  []byte // those behind the place
	fault api.Errno
}

// NewReader answers a reader of b, whose bytes may be written over.
func NewReader(b []byte) *Reader { return &Reader{rest: slices.Clone(b)} }

// Nat reads a natural number.
func (r *Reader) Nat() uint64 { return r.Small(math.MaxUint64) }

// Small reads a natural number that is not above most.
func (r *Reader) Small(most uint64) uint64 {
	if r.stopped() {
		return 0
	}
	n, size, e := leading(r.rest)
	if e == api.OK && n > most {
		e = api.ErrForm
	}
	if e != api.OK {
		r.fault = e
		return 0
	}
	r.pass(size)
	return n
}

// Int reads a whole number.
func (r *Reader) Int() int64 {
	n := r.Nat()
	if n%2 == 1 {
		return -int64(n/2) - 1
	}
	return int64(n / 2)
}

// Flag reads a flag.
func (r *Reader) Flag() bool {
	if r.stopped() {
		return false
	}
	if len(r.rest) == 0 {
		r.fault = api.ErrShort
		return false
	}
	if r.rest[0] > 1 {
		r.fault = api.ErrForm
		return false
	}
	return r.pass(1)[0] == 1
}

// Text reads a text of at most so many bytes.
func (r *Reader) Text(most int) []byte {
	if r.stopped() {
		return nil
	}
	n, size, e := leading(r.rest)
	if e == api.OK && n > uint64(max(most, 0)) {
		e = api.ErrLong
	}
	if e == api.OK && n > uint64(len(r.rest)-size) {
		e = api.ErrShort
	}
	if e != api.OK {
		r.fault = e
		return nil
	}
	r.pass(size)
	return slices.Clone(r.pass(int(n)))
}

// Fail makes e the fault, if there is none yet.
func (r *Reader) Fail(e api.Errno) {
	if !r.stopped() {
		r.fault = e
	}
}

// Left tells how many bytes are behind the place.
func (r *Reader) Left() int {
	if r == nil {
		return 0
	}
	return len(r.rest)
}

// Done tells the fault, or that bytes are left. It makes none of that: one who asks too early may read on.
func (r *Reader) Done() api.Errno {
	switch {
	case r == nil:
		return api.ErrNil
	case r.fault == api.OK && len(r.rest) > 0:
		return api.ErrForm
	}
	return r.fault
}

// stopped tells whether nothing is read any more.
func (r *Reader) stopped() bool { return r == nil || r.fault != api.OK }

// pass goes behind so many bytes, which are there, and answers them.
func (r *Reader) pass(size int) []byte {
	passed := r.rest[:size]
	r.rest = r.rest[size:]
	return passed
}
