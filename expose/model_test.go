package expose_test

import (
	"math/big"
	"math/rand"
	"slices"
	"testing"

	"broadside/api"
	"broadside/expose"
	"broadside/scan"
)

// The model reckons in numbers that have no end.
func number(n int64) *big.Int      { return big.NewInt(n) }
func plus(a, b *big.Int) *big.Int  { return new(big.Int).Add(a, b) }
func less(a, b *big.Int) *big.Int  { return new(big.Int).Sub(a, b) }
func times(a, b *big.Int) *big.Int { return new(big.Int).Mul(a, b) }
func most(l ...*big.Int) *big.Int  { return slices.MaxFunc(l, (*big.Int).Cmp) }

// modelScan is layer 10's scan, of any quantity.
func modelScan(shifts [16]int64, q *big.Int) *big.Int {
	worst := number(0)
	for _, shift := range shifts {
		worst = most(worst, less(number(0), times(q, number(shift))))
	}
	return worst
}

// modelWorst is a stake's worst case as the chapter's words have it.
func modelWorst(s api.Stake) *big.Int {
	b, sold, prices := number(0), number(0), number(0)
	for _, o := range s.Orders {
		worse := less(number(o.Price), number(s.Price))
		if o.Buy {
			b = plus(b, number(o.Left))
		} else {
			sold = plus(sold, number(o.Left))
			worse.Neg(worse)
		}
		prices = plus(prices, times(most(worse, number(0)), number(o.Left)))
	}
	q, shifts := number(s.Leg.Q), s.Leg.Spec.Shifts
	greater := most(modelScan(shifts, plus(q, b)), modelScan(shifts, less(q, sold)))
	return plus(most(less(greater, modelScan(shifts, q)), number(0)), prices)
}

// modelNeed are W and U as the chapter's words have them.
func modelNeed(l []api.Stake) (w, u *big.Int) {
	w, u = number(0), number(0)
	for _, s := range l {
		w = plus(w, modelWorst(s))
		u = plus(u, less(number(s.Basis), times(number(s.Leg.Q), number(s.Price))))
	}
	return w, most(u, number(0))
}

// legs are those of stakes.
func legs(l []api.Stake) []api.Leg {
	var out []api.Leg
	for _, s := range l {
		out = append(out, s.Leg)
	}
	return out
}

// upTo is a number by chance from 1 to an end, often a small one or the end.
func upTo(r *rand.Rand, end int64) int64 {
	switch r.Intn(4) {
	case 0:
		return end
	case 1:
		return 1 + r.Int63n(end)
	}
	return 1 + r.Int63n(min(end, 40))
}

// either is such a number, or one below 0, or 0.
func either(r *rand.Rand, end int64) int64 { return int64(r.Intn(3)-1) * upTo(r, end) }

// chanceOrder is an order by chance.
func chanceOrder(r *rand.Rand) api.Order {
	return api.Order{Number: uint64(upTo(r, 1<<62)), Account: uint32(upTo(r, 1<<31)), Buy: r.Intn(2) == 0, Price: upTo(r, mostPrice), Left: upTo(r, mostQty)}
}

// chanceStake is a stake by chance, with 0 to 249 orders.
func chanceStake(r *rand.Rand, n uint32) api.Stake {
	s := stake(n, either(r, mostPosition))
	for i := range s.Leg.Spec.Shifts {
		s.Leg.Spec.Shifts[i] = either(r, mostPrice)
	}
	for i, at := range r.Perm(16)[:2] {
		s.Leg.Spec.Shifts[at] = int64(1-2*i) * upTo(r, mostPrice)
	}
	s.Leg.Spec.Route, s.Leg.Spec.Credit = uint8(1+r.Intn(3)), upTo(r, mostPrice)-1
	s.Price, s.Basis = upTo(r, mostPrice), either(r, mostBasis)
	orders := r.Intn(8)
	if r.Intn(20) == 0 {
		orders = r.Intn(250)
	}
	for range orders {
		s.Orders = append(s.Orders, chanceOrder(r))
	}
	return s
}

// chances lets stakes by chance be asked.
func chances(t *testing.T, seed int64, each func(r *rand.Rand, l []api.Stake, n api.Need)) {
	r := rand.New(rand.NewSource(seed))
	for range 3000 {
		var l []api.Stake
		for _, i := range r.Perm(30)[:r.Intn(17)] {
			l = append(l, chanceStake(r, uint32(i)+1))
		}
		n, e := expose.Need(l)
		if e != api.OK {
			t.Fatalf("%+v: error %d", l, e)
		}
		each(r, l, n)
		if t.Failed() {
			return
		}
	}
}

// P11.1: whatever the stakes, what they need is what the words say.
func TestNeedAsTheModel(t *testing.T) {
	worse, lost := 0, 0
	chances(t, 111, func(_ *rand.Rand, l []api.Stake, n api.Need) {
		m, e := scan.Margin(legs(l))
		w, u := modelNeed(l)
		if n.M != m || e != api.OK || w.Cmp(number(n.W)) != 0 || u.Cmp(number(n.U)) != 0 {
			t.Errorf("Need of %+v: %+v; want %d, %v, %v", l, n, m, w, u)
		}
		worse += min(int(n.W), 1)
		lost += min(int(n.U), 1)
	})
	if worse == 0 || lost == 0 {
		t.Errorf("%d needs had a worst case, %d a loss", worse, lost)
	}
}

// P11.1: what stakes need hangs on no order, neither of stakes nor of orders, and a part of it on nothing that its words do not name.
func TestNeedInAnyOrder(t *testing.T) {
	chances(t, 112, func(r *rand.Rand, l []api.Stake, n api.Need) {
		r.Shuffle(len(l), func(i, j int) { l[i], l[j] = l[j], l[i] })
		for i := range l {
			o := l[i].Orders
			r.Shuffle(len(o), func(i, j int) { o[i], o[j] = o[j], o[i] })
			for j := range o {
				o[j].Number, o[j].Account = 1+o[j].Number/2, 1+o[j].Account/2
			}
		}
		holdNeed(t, "shuffled", l, n, api.OK)
	})
}

// P11.2: without orders W is 0, and the rest is the same; no part is below 0; the total is within MaxMoney.
func TestNeedWithoutOrders(t *testing.T) {
	chances(t, 113, func(_ *rand.Rand, l []api.Stake, n api.Need) {
		if min(n.M, n.W, n.U) < 0 || expose.Total(n) != n.M+n.W+n.U || expose.Total(n) > mostMoney {
			t.Errorf("Need of %+v: %+v, together %d", l, n, expose.Total(n))
		}
		for i := range l {
			l[i].Orders = nil
		}
		holdNeed(t, "without orders", l, api.Need{M: n.M, U: n.U}, api.OK)
	})
}

// P11.2: an order more never makes W smaller, and nothing else another.
func TestNeedWithAnOrderMore(t *testing.T) {
	chances(t, 114, func(r *rand.Rand, l []api.Stake, n api.Need) {
		if len(l) == 0 {
			return
		}
		i := r.Intn(len(l))
		l[i].Orders = append(l[i].Orders, chanceOrder(r))
		more, e := expose.Need(l)
		if more.M != n.M || more.W < n.W || more.U != n.U || e != api.OK {
			t.Errorf("Need of %+v: %+v, error %d; without the last order of %d %+v", l, more, e, i, n)
		}
	})
}

// filled is a stake when parts by chance of its orders have been filled, each at its own price.
func filled(r *rand.Rand, s api.Stake) (q, basis *big.Int) {
	q, basis = number(s.Leg.Q), number(s.Basis)
	whole := r.Intn(4)
	for _, o := range s.Orders {
		n := r.Int63n(o.Left + 1)
		// Now and then all of one side, so that the worst comes about.
		if whole == 0 && o.Buy || whole == 1 && !o.Buy {
			n = o.Left
		} else if whole < 2 {
			n = 0
		}
		if !o.Buy {
			n = -n
		}
		q, basis = plus(q, number(n)), plus(basis, times(number(n), number(o.Price)))
	}
	return q, basis
}

// P11.2: whatever is filled, the scan then, and what marking takes more, are within the scan of before and the worst case.
func TestWhateverIsFilled(t *testing.T) {
	reached := 0
	chances(t, 115, func(r *rand.Rand, l []api.Stake, _ api.Need) {
		for _, s := range l {
			n, e := expose.Need([]api.Stake{s})
			before, price := modelScan(s.Leg.Spec.Shifts, number(s.Leg.Q)), number(s.Price)
			q, basis := filled(r, s)
			// What marking takes, by itself, is the basis less what is held at the Price.
			more := less(less(basis, times(q, price)), less(number(s.Basis), times(number(s.Leg.Q), price)))
			after := plus(modelScan(s.Leg.Spec.Shifts, q), more)
			switch bound := plus(before, number(n.W)); {
			case e != api.OK || after.Cmp(bound) > 0:
				t.Errorf("%+v, filled to %v of basis %v: %v, before %v; Need %+v, error %d", s, q, basis, after, before, n, e)
			case after.Cmp(bound) == 0 && n.W > 0:
				reached++
			}
		}
	})
	if reached == 0 {
		t.Error("no worst case came about")
	}
}

// P11.1: the total of any three numbers is their sum, or the greatest or least number that fits, whatever two of them are together.
func TestTotal(t *testing.T) {
	edges := []int64{
		least, least + 1, least + 2, least/2 - 1, least / 2, least/2 + 1, least/3 - 1, least / 3, least/3 + 1, -mostMoney, -3, -2, -1,
		0, 1, 2, 3, mostMoney, greatest/3 - 1, greatest / 3, greatest/3 + 1, greatest / 2, greatest/2 + 1, greatest/2 + 2, greatest - 2, greatest - 1, greatest,
	}
	for _, m := range edges {
		for _, w := range edges {
			for _, u := range edges {
				n := api.Need{M: m, W: w, U: u}
				sum := plus(plus(number(m), number(w)), number(u))
				want := int64(greatest)
				switch {
				case sum.IsInt64():
					want = sum.Int64()
				case sum.Sign() < 0:
					want = least
				}
				if got := expose.Total(n); got != want {
					t.Errorf("Total of %+v: %d, want %d", n, got, want)
				}
			}
		}
	}
	if got := expose.Total(api.Need{}); got != 0 {
		t.Errorf("Total of nothing: %d", got)
	}
}
