package fixnum_test

import (
	"math/big"
	"math/rand"
	"slices"
	"testing"

	"broadside/api"
	"broadside/fixnum"
)

func repeat(n int, w int64) []int64 { return slices.Repeat([]int64{w}, n) }

// P1.3: the chapter's examples, rests, and the edges.
func TestSplit(t *testing.T) {
	for _, c := range []struct {
		total         int64
		weights, want []int64
	}{
		{10, []int64{1, 1, 1}, []int64{4, 3, 3}},
		{11, []int64{1, 1, 1}, []int64{4, 4, 3}},
		{12, []int64{1, 1, 1}, []int64{4, 4, 4}},
		{5, []int64{2, 0, 1}, []int64{3, 0, 2}},
		{1, []int64{1, 3, 1, 3}, []int64{0, 1, 0, 0}},
		{2, []int64{1, 3, 1, 3}, []int64{0, 1, 0, 1}},
		{2, []int64{0, 1, 0, 1, 1}, []int64{0, 1, 0, 1, 0}},
		{7, []int64{5}, []int64{7}},
		{greatest, []int64{greatest}, []int64{greatest}},
		{greatest, []int64{1, 1}, []int64{greatest/2 + 1, greatest / 2}},
		{greatest, []int64{0, greatest, 0}, []int64{0, greatest, 0}},
		{greatest, []int64{1 << 62, 1<<62 - 1}, []int64{1 << 62, 1<<62 - 1}},
		{1, []int64{1, greatest - 1}, []int64{0, 1}},
	} {
		got, e := fixnum.Split(c.total, c.weights)
		if e != api.OK || !slices.Equal(got, c.want) {
			t.Errorf("Split(%d, %v): %v, error %d; want %v", c.total, c.weights, got, e, c.want)
		}
	}
}

// P1.3: with the total 0 as many noughts, weights that are all 0 too.
func TestSplitOfNothing(t *testing.T) {
	for _, weights := range [][]int64{nil, {}, {0}, {0, 0, 0}, {3, 0, 1}, repeat(api.MaxWeights, 0), repeat(api.MaxWeights, 9)} {
		got, e := fixnum.Split(0, weights)
		if e != api.OK || !slices.Equal(got, repeat(len(weights), 0)) {
			t.Errorf("Split(0, %d weights): %v, error %d", len(weights), got, e)
		}
	}
}

// P1.3: as many weights as may be.
func TestSplitOfMany(t *testing.T) {
	got, e := fixnum.Split(2500, repeat(api.MaxWeights, 7))
	if want := slices.Concat(repeat(500, 3), repeat(500, 2)); e != api.OK || !slices.Equal(got, want) {
		t.Errorf("a thousand weights: %v, error %d", got, e)
	}
}

// P1.3: each error alone, and ahead of those that are named behind it.
func TestSplitErrors(t *testing.T) {
	tooMany := api.MaxWeights + 1
	for _, c := range []struct {
		name    string
		total   int64
		weights []int64
		e       api.Errno
	}{
		{"too many", 5, repeat(tooMany, 1), api.ErrLong},
		{"too many, far", 5, repeat(10*tooMany, 1), api.ErrLong},
		{"too many, total below 0", -1, repeat(tooMany, 1), api.ErrLong},
		{"too many, weights below 0", 5, repeat(tooMany, -1), api.ErrLong},
		{"too many, sum too great", 5, repeat(tooMany, greatest), api.ErrLong},
		{"too many, total 0", 0, repeat(tooMany, 1), api.ErrLong},
		{"too many, all 0", 5, repeat(tooMany, 0), api.ErrLong},
		{"total below 0", -1, []int64{1}, api.ErrArg},
		{"the least total", least, []int64{1}, api.ErrArg},
		{"total below 0, no weights", -1, nil, api.ErrArg},
		{"total below 0, all 0", -1, []int64{0}, api.ErrArg},
		{"total below 0, sum too great", -1, []int64{greatest, 1}, api.ErrArg},
		{"first weight below 0", 5, []int64{-1, 2, 3}, api.ErrArg},
		{"last weight below 0", 5, []int64{1, 2, -1}, api.ErrArg},
		{"a weight below 0, total 0", 0, []int64{1, -1}, api.ErrArg},
		{"weights that are 0 together", 5, []int64{1, -1}, api.ErrArg},
		{"a weight below 0, sum too great", 5, []int64{greatest, 2, -1}, api.ErrArg},
		{"a weight below 0 mends the sum", 5, []int64{greatest, 1, -1}, api.ErrArg},
		{"the least weight", 5, []int64{least}, api.ErrArg},
		{"sum too great", 5, []int64{greatest, 1}, api.ErrOverflow},
		{"sum too great by far", 5, repeat(api.MaxWeights, greatest), api.ErrOverflow},
		{"sum wraps to 0", 5, []int64{1 << 62, 1 << 62, 1 << 62, 1 << 62}, api.ErrOverflow},
		{"sum too great, total 0", 0, []int64{greatest, 1}, api.ErrOverflow},
		{"no weights", 1, nil, api.ErrZero},
		{"an empty list", 1, []int64{}, api.ErrZero},
		{"all 0", 1, []int64{0, 0}, api.ErrZero},
		{"all 0, great total", greatest, repeat(api.MaxWeights, 0), api.ErrZero},
	} {
		if got, e := fixnum.Split(c.total, c.weights); e != c.e || len(got) != 0 {
			t.Errorf("%s: %v, error %d; want error %d", c.name, got, e, c.e)
		}
	}
}

// plainParts gives what is left over one by one, to the first of the greatest rests that has had none.
func plainParts(total int64, weights []int64) []int64 {
	sum := new(big.Int)
	for _, w := range weights {
		sum.Add(sum, whole(w))
	}
	parts := make([]int64, len(weights))
	rests := make([]*big.Int, len(weights))
	left := total
	for i, w := range weights {
		share, rest := new(big.Int).QuoRem(new(big.Int).Mul(whole(total), whole(w)), sum, new(big.Int))
		parts[i], rests[i] = share.Int64(), rest
		left -= parts[i]
	}
	for ; left > 0; left-- {
		best := -1
		for i, r := range rests {
			if r.Sign() >= 0 && (best < 0 || r.Cmp(rests[best]) > 0) {
				best = i
			}
		}
		parts[best]++
		rests[best] = whole(-1)
	}
	return parts
}

// P1.3, What follows: the parts of many totals are the plain ones, and hold what follows from that.
func TestSplitByChance(t *testing.T) {
	r := rand.New(rand.NewSource(4))
	next := chance(5)
	tried := 0
	for range 6000 {
		weights := make([]int64, 1+r.Intn(12))
		for i := range weights {
			if weights[i] = int64(r.Intn(5)); r.Intn(3) == 0 {
				weights[i] = max(next()/16, 0)
			}
		}
		total := max(next(), 0)
		if r.Intn(2) == 0 {
			total = int64(r.Intn(100))
		}
		if sum, e := fixnum.Sum(weights...); sum == 0 || e != api.OK {
			continue
		}
		tried++
		got, e := fixnum.Split(total, weights)
		if want := plainParts(total, weights); e != api.OK || !slices.Equal(got, want) {
			t.Fatalf("Split(%d, %v): %v, error %d; want %v", total, weights, got, e, want)
		}
		holdParts(t, total, weights, got)
	}
	if tried < 1000 {
		t.Errorf("only %d splits were tried", tried)
	}
}

// P1.3: of many rests that are alike those ahead come first, also where others stand between them.
func TestSplitOfManyAlike(t *testing.T) {
	for _, total := range []int64{1, 499, 1001, 1499, 12345} {
		for step := int64(2); step < 30; step++ {
			weights := make([]int64, api.MaxWeights)
			for i := range weights {
				weights[i] = int64(i) * 7919 % step
			}
			got, e := fixnum.Split(total, weights)
			if want := plainParts(total, weights); e != api.OK || !slices.Equal(got, want) {
				t.Errorf("Split(%d, a thousand weights below %d): error %d: not the plain parts", total, step, e)
			}
		}
	}
}

// holdParts: the parts are the total, each less than one away from its share, and none greater than that of a greater weight.
func holdParts(t *testing.T, total int64, weights, parts []int64) {
	t.Helper()
	if n, e := fixnum.Sum(parts...); n != total || e != api.OK {
		t.Fatalf("Split(%d, %v): the parts are %d together", total, weights, n)
	}
	sum, _ := fixnum.Sum(weights...)
	for i, w := range weights {
		away := new(big.Int).Mul(whole(total), whole(w))
		away.Sub(away, new(big.Int).Mul(whole(parts[i]), whole(sum)))
		if away.CmpAbs(whole(sum)) >= 0 {
			t.Fatalf("Split(%d, %v): the part %d is one or more away from its share", total, weights, i)
		}
		for k, v := range weights {
			if w > v && parts[i] < parts[k] {
				t.Fatalf("Split(%d, %v): %v: the greater weight has the smaller part", total, weights, parts)
			}
		}
	}
}

// P1.3, R2: what is handed in stays as it was, and what is answered is not kept.
func TestSplitLeavesItsList(t *testing.T) {
	l := []int64{2, 0, 1, 9}
	first, _ := fixnum.Split(5, l[:3])
	if !slices.Equal(l, []int64{2, 0, 1, 9}) {
		t.Error("Split wrote to what it was handed:", l)
	}
	for i := range first {
		first[i] = -8
	}
	if !slices.Equal(l, []int64{2, 0, 1, 9}) {
		t.Error("an answer shares its list with what was handed in:", l)
	}
	if again, e := fixnum.Split(5, l[:3]); e != api.OK || !slices.Equal(again, []int64{3, 0, 2}) {
		t.Errorf("the second time: %v, error %d", again, e)
	}
	noughts, _ := fixnum.Split(0, l)
	for i := range noughts {
		noughts[i] = -8
	}
	if !slices.Equal(l, []int64{2, 0, 1, 9}) {
		t.Error("noughts share their list with what was handed in:", l)
	}
	fixnum.Split(5, l[:0])
	fixnum.Split(-5, l)
	if !slices.Equal(l, []int64{2, 0, 1, 9}) {
		t.Error("Split wrote to what it was handed beside an error:", l)
	}
}
