package fixnum_test

import (
	"math"
	"math/big"
	"math/rand"
	"slices"
	"testing"

	"broadside/api"
	"broadside/fixnum"
)

const (
	least    = math.MinInt64
	greatest = math.MaxInt64
)

// edges are the numbers at which a sign, a width or a rounding turns.
var edges = []int64{
	least, least + 1, least + 2, least / 2, least/2 - 1, least/2 + 1, -3037000500, -3037000499, -1 << 32, -1<<31 - 1,
	-10, -7, -3, -2, -1, 0, 1, 2, 3, 7, 10,
	1 << 31, 1<<32 - 1, 1 << 32, 3037000499, 3037000500, greatest/2 - 1, greatest / 2, greatest/2 + 1, greatest - 2, greatest - 1, greatest,
}

// chance is a row of numbers of all sizes that is the same at each run.
func chance(seed int64) func() int64 {
	r := rand.New(rand.NewSource(seed))
	return func() int64 {
		if r.Intn(4) == 0 {
			return edges[r.Intn(len(edges))]
		}
		return int64(r.Uint64()) >> r.Intn(64)
	}
}

func whole(n int64) *big.Int { return big.NewInt(n) }

// told is what a call has to answer, if the true answer is x.
func told(x *big.Int) (int64, api.Errno) {
	if !x.IsInt64() {
		return 0, api.ErrOverflow
	}
	return x.Int64(), api.OK
}

// floor is x divided by y, towards minus infinity.
func floor(x, y *big.Int) *big.Int {
	q, m := new(big.Int).QuoRem(x, y, new(big.Int))
	if m.Sign() != 0 && m.Sign() != y.Sign() {
		q.Sub(q, whole(1))
	}
	return q
}

// hold holds an answer against the true one.
func hold(t *testing.T, name string, args []int64, got int64, e api.Errno, x *big.Int) {
	t.Helper()
	want, we := told(x)
	if got != want || e != we {
		t.Errorf("%s%v: %d, error %d; want %d, error %d", name, args, got, e, want, we)
	}
}

// holdPair holds the calls of P1.1 that take two numbers, and Neg, against the true answers.
func holdPair(t *testing.T, a, b int64) {
	t.Helper()
	args := []int64{a, b}
	n, e := fixnum.Add(a, b)
	hold(t, "Add", args, n, e, new(big.Int).Add(whole(a), whole(b)))
	n, e = fixnum.Sub(a, b)
	hold(t, "Sub", args, n, e, new(big.Int).Sub(whole(a), whole(b)))
	n, e = fixnum.Mul(a, b)
	hold(t, "Mul", args, n, e, new(big.Int).Mul(whole(a), whole(b)))
	n, e = fixnum.Neg(a)
	hold(t, "Neg", args[:1], n, e, new(big.Int).Neg(whole(a)))
}

// P1.1: each edge with each edge.
func TestPairsAtEdges(t *testing.T) {
	for _, a := range edges {
		for _, b := range edges {
			holdPair(t, a, b)
		}
	}
}

// P1.1: numbers of all sizes.
func TestPairsByChance(t *testing.T) {
	next := chance(1)
	for range 20000 {
		holdPair(t, next(), next())
	}
}

// P1.1: what just fits and just does not, written out.
func TestPairsThatJustFit(t *testing.T) {
	for _, c := range []struct {
		name string
		call func(a, b int64) (int64, api.Errno)
		a, b int64
		want int64
		e    api.Errno
	}{
		{"Add", fixnum.Add, 2, 3, 5, api.OK},
		{"Add", fixnum.Add, greatest - 1, 1, greatest, api.OK},
		{"Add", fixnum.Add, greatest, 1, 0, api.ErrOverflow},
		{"Add", fixnum.Add, least + 1, -1, least, api.OK},
		{"Add", fixnum.Add, least, -1, 0, api.ErrOverflow},
		{"Add", fixnum.Add, least, least, 0, api.ErrOverflow},
		{"Add", fixnum.Add, least, greatest, -1, api.OK},
		{"Sub", fixnum.Sub, 2, 3, -1, api.OK},
		{"Sub", fixnum.Sub, -1, greatest, least, api.OK},
		{"Sub", fixnum.Sub, -2, greatest, 0, api.ErrOverflow},
		{"Sub", fixnum.Sub, -1, least, greatest, api.OK},
		{"Sub", fixnum.Sub, 0, least, 0, api.ErrOverflow},
		{"Sub", fixnum.Sub, least, least, 0, api.OK},
		{"Mul", fixnum.Mul, -4, 5, -20, api.OK},
		{"Mul", fixnum.Mul, least, 1, least, api.OK},
		{"Mul", fixnum.Mul, least, -1, 0, api.ErrOverflow},
		{"Mul", fixnum.Mul, -1, least, 0, api.ErrOverflow},
		{"Mul", fixnum.Mul, 1 << 31, -1 << 32, least, api.OK},
		{"Mul", fixnum.Mul, 1 << 31, 1 << 32, 0, api.ErrOverflow},
		{"Mul", fixnum.Mul, 1 << 32, 1 << 32, 0, api.ErrOverflow},
		{"Mul", fixnum.Mul, 0, least, 0, api.OK},
	} {
		if n, e := c.call(c.a, c.b); n != c.want || e != c.e {
			t.Errorf("%s(%d, %d): %d, error %d; want %d, error %d", c.name, c.a, c.b, n, e, c.want, c.e)
		}
	}
}

// P1.1: the one number without a negative.
func TestNeg(t *testing.T) {
	if n, e := fixnum.Neg(least); n != 0 || e != api.ErrOverflow {
		t.Errorf("Neg(-2^63): %d, error %d", n, e)
	}
	if n, e := fixnum.Neg(greatest); n != -greatest || e != api.OK {
		t.Errorf("Neg(2^63 - 1): %d, error %d", n, e)
	}
	if n, e := fixnum.Neg(0); n != 0 || e != api.OK {
		t.Errorf("Neg(0): %d, error %d", n, e)
	}
}

// P1.1: a sum counts as a whole, whatever a part of it is.
func TestSum(t *testing.T) {
	many := slices.Repeat([]int64{greatest}, 5000)
	back := slices.Repeat([]int64{-greatest}, 5000)
	// It stands far below what one word bears ahead of coming back.
	deep := slices.Concat(slices.Repeat([]int64{least}, 5000), many, slices.Repeat([]int64{1}, 4999))
	for _, c := range []struct {
		name string
		l    []int64
		want int64
		e    api.Errno
	}{
		{"none", nil, 0, api.OK},
		{"an empty list", []int64{}, 0, api.OK},
		{"one", []int64{least}, least, api.OK},
		{"three", []int64{1, -5, 2}, -2, api.OK},
		{"a part too great", []int64{greatest, 1, -1}, greatest, api.OK},
		{"a part too small", []int64{least, -1, 1}, least, api.OK},
		{"one too many", []int64{greatest, 1}, 0, api.ErrOverflow},
		{"one too few", []int64{least, -1}, 0, api.ErrOverflow},
		{"one too many behind all", []int64{greatest, greatest, -greatest, 1}, 0, api.ErrOverflow},
		{"2^64, which wraps to 0", []int64{1 << 62, 1 << 62, 1 << 62, 1 << 62}, 0, api.ErrOverflow},
		{"-2^64, which wraps to 0", []int64{least, least}, 0, api.ErrOverflow},
		{"2^64 + 5", []int64{greatest, greatest, 7}, 0, api.ErrOverflow},
		{"many up", many, 0, api.ErrOverflow},
		{"many down", back, 0, api.ErrOverflow},
		{"many up and down", slices.Concat(many, back), 0, api.OK},
		{"many down and up", slices.Concat(back, many, []int64{9}), 9, api.OK},
		{"many of the least", deep, -1, api.OK},
	} {
		if n, e := fixnum.Sum(c.l...); n != c.want || e != c.e {
			t.Errorf("%s: %d, error %d; want %d, error %d", c.name, n, e, c.want, c.e)
		}
	}
}

// P1.1: sums of numbers of all sizes.
func TestSumByChance(t *testing.T) {
	next := chance(2)
	fits := 0
	for i := range 5000 {
		l := make([]int64, i%9)
		x := new(big.Int)
		for k := range l {
			l[k] = next()
			x.Add(x, whole(l[k]))
		}
		n, e := fixnum.Sum(l...)
		hold(t, "Sum", l, n, e, x)
		if e == api.OK {
			fits++
		}
	}
	if fits == 0 || fits == 5000 {
		t.Errorf("%d of 5000 fit: the row tries one side alone", fits)
	}
}

// P1.1, R2: what is handed to Sum stays as it was.
func TestSumLeavesItsList(t *testing.T) {
	l := []int64{greatest, 1, -1, 9}
	fixnum.Sum(l[:3]...)
	if !slices.Equal(l, []int64{greatest, 1, -1, 9}) {
		t.Error("Sum wrote to what it was handed:", l)
	}
}

// P1.2: the chapter's examples, rounding by all signs, and what just fits.
func TestMulDiv(t *testing.T) {
	for _, c := range []struct {
		a, b, c, want int64
		e             api.Errno
	}{
		{7, 1, 2, 3, api.OK},
		{-7, 1, 2, -4, api.OK},
		{7, -1, 2, -4, api.OK},
		{7, 1, -2, -4, api.OK},
		{-7, -1, 2, 3, api.OK},
		{-7, 1, -2, 3, api.OK},
		{7, -1, -2, 3, api.OK},
		{-7, -1, -2, -4, api.OK},
		{-8, 1, 2, -4, api.OK},
		{8, 1, -2, -4, api.OK},
		{1, 1, -3, -1, api.OK},
		{-1, 1, greatest, -1, api.OK},
		{1, -1, least, 0, api.OK},
		{1, 1, least, -1, api.OK},
		{0, -5, 3, 0, api.OK},
		{0, 5, -3, 0, api.OK},
		{-5, 0, 3, 0, api.OK},
		{0, least, least, 0, api.OK},
		{1 << 62, 6, 4, 6 << 60, api.OK},
		{greatest, greatest, greatest, greatest, api.OK},
		{least, least, least, least, api.OK},
		{least, greatest, greatest, least, api.OK},
		{greatest, greatest, least, -greatest, api.OK},
		{least, least, greatest, 0, api.ErrOverflow},
		{least, 1, -1, 0, api.ErrOverflow},
		{least, -1, 1, 0, api.ErrOverflow},
		{least, 1, 1, least, api.OK},
		{least, -1, -1, least, api.OK},
		{greatest, 1, -1, -greatest, api.OK},
		{greatest, greatest, 1, 0, api.ErrOverflow},
		{least, least, 1, 0, api.ErrOverflow},
		{1 << 62, -4, 2, least, api.OK},
		{1 << 62, 4, 2, 0, api.ErrOverflow},
		{1<<62 + 1, -4, 2, 0, api.ErrOverflow},
		{1 << 32, -1<<32 - 1, 2, 0, api.ErrOverflow},
		// 2^64 - 1 and 2^64 + 1, halved: half a step inside the word's ends, and half a step beyond.
		{6148914691236517205, 3, 2, greatest, api.OK},
		{6148914691236517205, -3, 2, least, api.OK},
		{67280421310721, 274177, 2, 0, api.ErrOverflow},
		{67280421310721, -274177, 2, 0, api.ErrOverflow},
		// 2^65 - 1, halved: half a step from where the magnitude wraps to 0.
		{145295143558111, 253921, 2, 0, api.ErrOverflow},
		{145295143558111, -253921, 2, 0, api.ErrOverflow},
	} {
		if n, e := fixnum.MulDiv(c.a, c.b, c.c); n != c.want || e != c.e {
			t.Errorf("MulDiv(%d, %d, %d): %d, error %d; want %d, error %d", c.a, c.b, c.c, n, e, c.want, c.e)
		}
	}
}

// P1.2: a division by 0, whatever the product is.
func TestMulDivByZero(t *testing.T) {
	for _, a := range edges {
		for _, b := range edges {
			if n, e := fixnum.MulDiv(a, b, 0); n != 0 || e != api.ErrZero {
				t.Errorf("MulDiv(%d, %d, 0): %d, error %d", a, b, n, e)
			}
		}
	}
}

func holdMulDiv(t *testing.T, a, b, c int64) {
	t.Helper()
	n, e := fixnum.MulDiv(a, b, c)
	product := new(big.Int).Mul(whole(a), whole(b))
	hold(t, "MulDiv", []int64{a, b, c}, n, e, floor(product, whole(c)))
}

// P1.2: each three edges.
func TestMulDivAtEdges(t *testing.T) {
	for _, a := range edges {
		for _, b := range edges {
			for _, c := range edges {
				if c != 0 {
					holdMulDiv(t, a, b, c)
				}
			}
		}
	}
}

// P1.2: numbers of all sizes; and such that the quotient lies about 2^63 and 2^64.
func TestMulDivByChance(t *testing.T) {
	next := chance(3)
	for range 20000 {
		a, b, c := next(), next(), next()
		if c != 0 {
			holdMulDiv(t, a, b, c)
		}
		if b == 0 || c == 0 {
			continue
		}
		for _, end := range []*big.Int{new(big.Int).Lsh(whole(1), 63), new(big.Int).Lsh(whole(1), 64)} {
			x := floor(new(big.Int).Mul(end, whole(c)), whole(b))
			for d := int64(-2); d <= 2; d++ {
				if y := new(big.Int).Add(x, whole(d)); y.IsInt64() {
					holdMulDiv(t, y.Int64(), b, c)
					holdMulDiv(t, y.Int64(), b, max(-c, -greatest))
				}
			}
		}
	}
}

// P1.2, What follows: a product divided by one of its factors is the other one.
func TestProductByFactor(t *testing.T) {
	for _, a := range edges {
		for _, b := range edges {
			if b == 0 {
				continue
			}
			if n, e := fixnum.MulDiv(a, b, b); n != a || e != api.OK {
				t.Errorf("MulDiv(%d, %d, %d): %d, error %d", a, b, b, n, e)
			}
		}
	}
}

// P1.4: the ends, one beyond them, and bounds below 0.
func TestWithin(t *testing.T) {
	for _, c := range []struct {
		a, most int64
		want    bool
	}{
		{0, 0, true}, {1, 0, false}, {-1, 0, false},
		{3, 3, true}, {-3, 3, true}, {4, 3, false}, {-4, 3, false}, {2, 3, true}, {-2, 3, true},
		{0, -1, false}, {3, -1, false}, {-1, -1, false}, {1, -1, false}, {-3, -5, false},
		{0, least, false}, {least, least, false}, {greatest, least, false},
		{least, greatest, false}, {least + 1, greatest, true}, {greatest, greatest, true},
	} {
		if got := fixnum.Within(c.a, c.most); got != c.want {
			t.Errorf("Within(%d, %d): %v", c.a, c.most, got)
		}
	}
}

// P1.4: each edge with each edge.
func TestWithinAtEdges(t *testing.T) {
	for _, a := range edges {
		for _, most := range edges {
			if want := whole(a).CmpAbs(whole(most)) <= 0 && most >= 0; fixnum.Within(a, most) != want {
				t.Errorf("Within(%d, %d): %v", a, most, !want)
			}
		}
	}
}
