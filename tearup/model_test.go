package tearup_test

import (
	"math/big"
	"math/rand"
	"slices"
	"testing"

	"broadside/api"
	"broadside/tearup"
)

// The model reckons in numbers that have no end.
func number(n int64) *big.Int     { return big.NewInt(n) }
func plus(a, b *big.Int) *big.Int { return new(big.Int).Add(a, b) }
func size(n int64) *big.Int       { return new(big.Int).Abs(number(n)) }

// among tells whether n is from low to high.
func among(n, low, high int64) bool { return low <= n && n <= high }

// opposite tells whether a holder stands on the other side of q.
func opposite(q int64, h api.Holder) bool { return q > 0 && h.Q < 0 || q < 0 && h.Q > 0 }

// modelHeld is what those who stand opposite hold together, without signs.
func modelHeld(q int64, l []api.Holder) *big.Int {
	sum := number(0)
	for _, h := range l {
		if opposite(q, h) {
			sum = plus(sum, size(h.Q))
		}
	}
	return sum
}

// modelError is the first of what the chapter's words name that is so.
func modelError(q int64, l []api.Holder) api.Errno {
	if len(l) > mostAccounts {
		return api.ErrLong
	}
	if q == 0 || !among(q, -mostPosition, mostPosition) {
		return api.ErrArg
	}
	for i, h := range l {
		if h.Account == 0 || i > 0 && h.Account <= l[i-1].Account || !among(h.Q, -mostPosition, mostPosition) {
			return api.ErrArg
		}
	}
	if modelHeld(q, l).Cmp(size(q)) < 0 {
		return api.ErrNone
	}
	return api.OK
}

// modelParts is what the chapter's words make of holders of whom enough stand opposite; what is left over goes one by one to the first of the greatest rests that has had none.
func modelParts(q int64, l []api.Holder) []api.Holder {
	all, left := modelHeld(q, l), size(q)
	parts, rests := make([]*big.Int, len(l)), make([]*big.Int, len(l))
	for i, h := range l {
		parts[i], rests[i] = number(0), number(0)
		if opposite(q, h) {
			parts[i], rests[i] = new(big.Int).QuoRem(new(big.Int).Mul(size(q), size(h.Q)), all, new(big.Int))
		}
		left = new(big.Int).Sub(left, parts[i])
	}
	for ; left.Sign() > 0; left = plus(left, number(-1)) {
		best := 0
		for i, r := range rests {
			if r.Cmp(rests[best]) > 0 {
				best = i
			}
		}
		parts[best], rests[best] = plus(parts[best], number(1)), number(-1)
	}
	var out []api.Holder
	for i, h := range l {
		if parts[i].Sign() > 0 {
			out = append(out, holder(h.Account, parts[i].Int64()))
		}
	}
	return out
}

// within is a number by chance from -most to most, often a small one, nought, or an end.
func within(r *rand.Rand, most int64) int64 {
	switch r.Intn(8) {
	case 0:
		return 0
	case 1:
		return most - 2*most*r.Int63n(2)
	case 2, 3:
		return r.Int63n(2*most+1) - most
	}
	small := min(most, 12)
	return r.Int63n(2*small+1) - small
}

// chanceHolders are holders by chance that may be.
func chanceHolders(r *rand.Rand) []api.Holder {
	n := r.Intn(12)
	if r.Intn(8) == 0 {
		n = r.Intn(mostAccounts + 1)
	}
	most := []int64{3, 12, 500, mostPosition}[r.Intn(4)]
	var l []api.Holder
	account := uint32(0)
	for range n {
		account += 1 + uint32(r.Intn(3)*r.Intn(1<<25))
		l = append(l, holder(account, within(r, most)))
	}
	return l
}

// chanceQuantity is one by chance that is not 0, often about what stands opposite to it.
func chanceQuantity(r *rand.Rand, l []api.Holder) int64 {
	sign := 1 - 2*r.Int63n(2)
	held := modelHeld(sign, l).Int64()
	n := []int64{1, r.Int63n(held + 1), held/2 + 1, held - 1, held, held + 1, r.Int63n(mostPosition)}[r.Intn(7)]
	return sign * min(max(n, 1), mostPosition)
}

// tears lets holders by chance be torn up of whom enough stand opposite; given is what each gives up, with a nought for those who are not told.
func tears(t *testing.T, seed int64, each func(r *rand.Rand, q int64, l, out []api.Holder, given []int64)) {
	r := rand.New(rand.NewSource(seed))
	for torn := 0; torn < 20000; {
		l := chanceHolders(r)
		q := chanceQuantity(r, l)
		if modelHeld(q, l).Cmp(size(q)) < 0 {
			continue
		}
		torn++
		before := slices.Clone(l)
		out, e := tearup.Parts(q, l)
		if e != api.OK || !slices.Equal(l, before) {
			t.Fatalf("Parts(%d, %v): %v, error %d, of what is %v then", q, before, out, e, l)
		}
		each(r, q, l, out, spread(t, l, out))
		if t.Failed() {
			t.Fatalf("Parts(%d, %v): %v", q, l, out)
		}
	}
}

// spread lays parts beside the holders; each is above 0, and of one of them, in their order.
func spread(t *testing.T, l, out []api.Holder) []int64 {
	given := make([]int64, len(l))
	at := 0
	for _, p := range out {
		for at < len(l) && l[at].Account != p.Account {
			at++
		}
		if at == len(l) || p.Q <= 0 {
			t.Fatalf("%v is no part of %v", out, l)
		}
		given[at] = p.Q
		at++
	}
	return given
}

// P14.1: what is told is what the words tell; and what they tell apart comes about here.
func TestPartsByModel(t *testing.T) {
	all, several, untold := 0, 0, 0
	tears(t, 141, func(_ *rand.Rand, q int64, l, out []api.Holder, given []int64) {
		if want := modelParts(q, l); !slices.Equal(out, want) {
			t.Errorf("want %v", want)
		}
		if modelHeld(q, l).Cmp(size(q)) == 0 {
			all++
		}
		if len(out) > 1 {
			several++
		}
		for i, h := range l {
			if opposite(q, h) && given[i] == 0 {
				untold++
			}
		}
	})
	for _, n := range []int{all, several, untold} {
		if n < 1000 {
			t.Errorf("%d gave up all, %d times several gave up something, %d gave up nothing", all, several, untold)
		}
	}
}

// spoil makes something of the quantity or the holders such as may be wrong, or not.
func spoil(r *rand.Rand, q int64, l []api.Holder) (int64, []api.Holder) {
	wild := []int64{-1, 0, 1, mostPosition, mostPosition + 1, -mostPosition, -mostPosition - 1, least, greatest, int64(r.Uint64())}
	n := wild[r.Intn(len(wild))]
	if len(l) == 0 || r.Intn(6) == 0 {
		return n, l
	}
	at, other := r.Intn(len(l)), r.Intn(len(l))
	switch r.Intn(5) {
	case 0:
		l[at].Q = n
	case 1:
		l[at].Account = l[other].Account
	case 2:
		l[at].Account = 0
	case 3:
		l[at], l[other] = l[other], l[at]
	case 4:
		for range r.Intn(2 * mostAccounts) {
			l = append(l, holder(l[len(l)-1].Account+1, -q))
		}
	}
	return q, l
}

// P14.1: of all that is wrong the first error is told, and beside it nothing; what is not wrong is torn up.
func TestPartsErrorsByModel(t *testing.T) {
	r := rand.New(rand.NewSource(142))
	seen := map[api.Errno]int{}
	for range 30000 {
		l := chanceHolders(r)
		q := chanceQuantity(r, l)
		for range r.Intn(4) {
			q, l = spoil(r, q, l)
		}
		want := modelError(q, l)
		seen[want]++
		out, e := tearup.Parts(q, l)
		if e != want || (e == api.OK) != (len(out) > 0) {
			t.Fatalf("Parts(%d, %v): %v, error %d; want error %d", q, l, out, e, want)
		}
	}
	for _, e := range []api.Errno{api.OK, api.ErrLong, api.ErrArg, api.ErrNone} {
		if seen[e] < 500 {
			t.Errorf("error %d came about %d times", e, seen[e])
		}
	}
}

// P14.2: all parts are q together.
func TestPartsAreAll(t *testing.T) {
	tears(t, 143, func(_ *rand.Rand, q int64, _, out []api.Holder, _ []int64) {
		sum := number(0)
		for _, p := range out {
			sum = plus(sum, number(p.Q))
		}
		if sum.Cmp(size(q)) != 0 {
			t.Errorf("the parts are %v together", sum)
		}
	})
}

// P14.2: nobody gives up more than they hold.
func TestPartsAreHeld(t *testing.T) {
	tears(t, 144, func(_ *rand.Rand, _ int64, l, _ []api.Holder, given []int64) {
		for i, h := range l {
			if number(given[i]).Cmp(size(h.Q)) > 0 {
				t.Errorf("%v gives up %d", h, given[i])
			}
		}
	})
}

// P14.2: who holds more on the other side gives up no less. T10: those who hold alike give up alike but for one, the one ahead first.
func TestPartsAreFair(t *testing.T) {
	tears(t, 145, func(_ *rand.Rand, q int64, l, _ []api.Holder, given []int64) {
		for i, a := range l {
			for k, b := range l[:i] {
				if !opposite(q, a) || !opposite(q, b) {
					continue
				}
				more := size(a.Q).Cmp(size(b.Q))
				if more > 0 && given[i] < given[k] || more < 0 && given[i] > given[k] {
					t.Errorf("%v gives up %d, %v %d", b, given[k], a, given[i])
				}
				if more == 0 && !among(given[k]-given[i], 0, 1) {
					t.Errorf("%v gives up %d, %v %d", b, given[k], a, given[i])
				}
			}
		}
	})
}

// P14.2: nobody who stands on the same side, or who holds nothing, gives up anything.
func TestPartsAreOpposite(t *testing.T) {
	tears(t, 146, func(_ *rand.Rand, q int64, l, _ []api.Holder, given []int64) {
		for i, h := range l {
			if given[i] != 0 && !opposite(q, h) {
				t.Errorf("%v gives up %d", h, given[i])
			}
		}
	})
}

// T8: other numbers in the same order change nothing but the numbers.
func TestRenamed(t *testing.T) {
	tears(t, 147, func(r *rand.Rand, q int64, l, _ []api.Holder, given []int64) {
		l = slices.Clone(l)
		var want []api.Holder
		account := uint32(0)
		for i := range l {
			account += 1 + uint32(r.Intn(4)*r.Intn(1<<24))
			l[i].Account = account
			if given[i] > 0 {
				want = append(want, holder(account, given[i]))
			}
		}
		holdParts(t, "renamed", q, l, want)
	})
}
