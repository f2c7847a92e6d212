package fixnum

import (
	"cmp"
	"math/bits"
	"slices"

	"broadside/api"
)

// Split answers the parts of a total by weights, one for each weight.
func Split(total int64, weights []int64) ([]int64, api.Errno) {
	if len(weights) > api.MaxWeights {
		return nil, api.ErrLong
	}
	below := func(w int64) bool { return w < 0 }
	if total < 0 || slices.ContainsFunc(weights, below) {
		return nil, api.ErrArg
	}
	sum, e := Sum(weights...)
	if e != api.OK {
		return nil, e
	}
	if total == 0 {
		return make([]int64, len(weights)), api.OK
	}
	if sum == 0 {
		return nil, api.ErrZero
	}
	return parts(uint64(total), weights, uint64(sum)), api.OK
}

// parts gives each weight its share, and what is left over to those with the greatest rests. None of these divisions fails, and none of the places is missing: a weight is at most the sum, and what is left over is less than the weights that have a rest.
func parts(total uint64, weights []int64, sum uint64) []int64 {
	shares := make([]int64, len(weights))
	rests := make([]uint64, len(weights))
	places := make([]int, len(weights))
	left := total
	for i, w := range weights {
		hi, lo := bits.Mul64(total, uint64(w))
		share, rest := bits.Div64(hi, lo, sum)
		shares[i], rests[i], places[i] = int64(share), rest, i
		left -= share
	}
	slices.SortStableFunc(places, func(i, j int) int { return cmp.Compare(rests[j], rests[i]) })
	for _, i := range places[:left] {
		shares[i]++
	}
	return shares
}
