package spec

import (
	"math"
	"slices"

	"broadside/api"
	"broadside/wire"
)

// Bytes answers the form of data that may be.
func Bytes(s api.Spec) ([]byte, api.Errno) {
	if !May(s) {
		return nil, api.ErrArg
	}
	return form(s), api.OK
}

// Read answers the data whose form b is.
func Read(b []byte) (api.Spec, api.Errno) {
	r := wire.NewReader(b)
	s := Take(r)
	if r.Done() != api.OK {
		return api.Spec{}, api.ErrForm
	}
	return s, api.OK
}

// Put answers b, and behind it the form of s; b alone, if s may not be.
func Put(b []byte, s api.Spec) []byte {
	if !May(s) {
		return slices.Clone(b)
	}
	return slices.Concat(b, form(s))
}

// Take reads the data at the reader's place; with a fault it answers zero data.
func Take(r *wire.Reader) api.Spec {
	var s api.Spec
	s.Number = uint32(r.Small(math.MaxUint32))
	s.Route = uint8(r.Small(math.MaxUint8))
	for _, field := range []*int64{&s.Tick, &s.Lot, &s.Band, &s.Limit} {
		*field = natural(r)
	}
	for i := range s.Shifts {
		s.Shifts[i] = r.Int()
	}
	s.Credit = natural(r)
	s.LastDay = uint32(r.Small(math.MaxUint32))
	s.First = natural(r)
	// Behind any fault First is 0, so that such data may not be; the fault stays what it was.
	if !May(s) {
		r.Fail(api.ErrForm)
		return api.Spec{}
	}
	return s
}

// form is the form of data that may be: none of these numbers is below 0.
func form(s api.Spec) []byte {
	var b []byte
	for _, n := range []int64{int64(s.Number), int64(s.Route), s.Tick, s.Lot, s.Band, s.Limit} {
		b = wire.Nat(b, uint64(n))
	}
	for _, shift := range s.Shifts {
		b = wire.Int(b, shift)
	}
	for _, n := range []int64{s.Credit, int64(s.LastDay), s.First} {
		b = wire.Nat(b, uint64(n))
	}
	return b
}

// natural reads a natural number into a field of 64 bits with a sign.
func natural(r *wire.Reader) int64 { return int64(r.Small(math.MaxInt64)) }
