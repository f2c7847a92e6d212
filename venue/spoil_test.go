package venue_test

import (
	"math/rand"
	"slices"
	"testing"

	"broadside/api"
	"broadside/spec"
	"broadside/venue"
)

// fallen tells whether two that stand next to each other do not rise.
func fallen[T any](l []T, rise func(a, b T) bool) bool {
	for i := 1; i < len(l); i++ {
		if !rise(l[i-1], l[i]) {
			return true
		}
	}
	return false
}

// plainMay is what the chapter says of a state that may be, one thing after the other.
func plainMay(s api.State) bool {
	sum := s.Fund
	accounts, contracts, numbers := map[uint32]api.Account{}, map[uint32]api.Contract{}, map[uint64]int{}
	for _, a := range s.Accounts {
		if a.Number == 0 || a.Cash < 0 || a.Cash > mostFunds {
			return false
		}
		accounts[a.Number] = a
		sum += a.Cash
	}
	for _, c := range s.Contracts {
		if !spec.May(c.Spec) || c.State < 1 || c.State > 3 || c.Price < 1 || c.Price > mostPrice || c.Price%c.Spec.Tick != 0 {
			return false
		}
		if c.State != api.Expired {
			contracts[c.Spec.Number] = c
		}
	}
	risen := !fallen(s.Accounts, func(a, b api.Account) bool { return a.Number < b.Number }) &&
		!fallen(s.Contracts, func(a, b api.Contract) bool { return a.Spec.Number < b.Spec.Number }) &&
		!fallen(s.Positions, func(a, b api.Position) bool {
			return a.Contract < b.Contract || a.Contract == b.Contract && a.Account < b.Account
		})
	if !risen || s.Fund < 0 || s.Fund > mostFunds || sum > mostFunds || len(s.Accounts) > 64 || len(s.Contracts) > 16 || s.Next < 1 || s.Next > mostNumber+1 {
		return false
	}
	for _, x := range slices.Concat(s.Orders, s.Bids) {
		o := x.Order
		a, isAccount := accounts[o.Account]
		c, isContract := contracts[x.Contract]
		numbers[o.Number]++
		if !isAccount || a.Killed || a.Default || !isContract || o.Number < 1 || o.Number >= s.Next || numbers[o.Number] > 1 ||
			o.Left < 1 || o.Left > mostQty || o.Price < 1 || o.Price > mostPrice || o.Price%c.Spec.Tick != 0 {
			return false
		}
	}
	return plainPositions(s, accounts, contracts) && plainStanding(s, contracts)
}

func plainPositions(s api.State, accounts map[uint32]api.Account, contracts map[uint32]api.Contract) bool {
	q, basis := map[uint32]int64{}, map[uint32]int64{}
	for _, p := range s.Positions {
		_, isAccount := accounts[p.Account]
		_, isContract := contracts[p.Contract]
		if !isAccount || !isContract || p.Q == 0 && p.Basis == 0 || max(p.Q, -p.Q) > 10_000_000 || max(p.Basis, -p.Basis) > mostFunds {
			return false
		}
		q[p.Contract] += p.Q
		basis[p.Contract] += p.Basis
	}
	for contract := range contracts {
		if q[contract] != 0 || basis[contract] != 0 {
			return false
		}
	}
	return true
}

func plainStanding(s api.State, contracts map[uint32]api.Contract) bool {
	sides := map[uint32][2]int{}
	for i, x := range s.Orders {
		n := sides[x.Contract]
		n[map[bool]int{false: 0, true: 1}[x.Order.Buy]]++
		sides[x.Contract] = n
		if x.Order.Left%contracts[x.Contract].Spec.Lot != 0 || max(n[0], n[1]) > 100 {
			return false
		}
		for _, y := range s.Orders[:i] {
			crossed := x.Contract == y.Contract && y.Order.Buy && !x.Order.Buy && y.Order.Price >= x.Order.Price
			if crossed || ahead(x, y) {
				return false
			}
		}
	}
	bids := map[uint32]int{}
	for _, x := range s.Bids {
		bids[x.Contract]++
		if bids[x.Contract] > 50 {
			return false
		}
	}
	return !fallen(s.Bids, func(x, y api.Stood) bool {
		return x.Contract < y.Contract || x.Contract == y.Contract && x.Order.Number < y.Order.Number
	})
}

// spoil changes something in a state that nobody else shares.
func spoil(r *rand.Rand, s *api.State) {
	little := r.Int63n(5) - 2
	switch n := r.Intn(10); {
	case n < 1:
		s.Fund += one(r, little, mostFunds)
		s.Next = one(r, s.Next, s.Next+1, 0, uint64(r.Intn(50)), mostNumber+1, mostNumber+2)
	case n < 2 && len(s.Accounts) > 0:
		i := r.Intn(len(s.Accounts))
		a := &s.Accounts[i]
		a.Cash += one(r, little, 0, 0, mostFunds, -a.Cash)
		a.Number += uint32(r.Intn(8) / 7)
		a.Default, a.Killed = a.Default != (r.Intn(3) == 0), a.Killed != (r.Intn(3) == 0)
	case n < 3 && len(s.Contracts) > 0:
		c := &s.Contracts[r.Intn(len(s.Contracts))]
		c.State = api.ContractState(r.Intn(5))
		c.Price += one(r, little, 0, 0)
		c.Spec.Lot += int64(r.Intn(4) / 3)
		c.Spec.Tick += int64(r.Intn(5) / 4)
	case n < 5 && len(s.Positions) > 1:
		i := r.Intn(len(s.Positions) - 1)
		p, q := &s.Positions[i], &s.Positions[i+1]
		switch r.Intn(4) {
		case 0:
			p.Q, q.Q = p.Q+little, q.Q-little
		case 1:
			p.Basis, q.Basis = p.Basis+little, q.Basis-little
		case 2:
			s.Positions[i], s.Positions[i+1] = *q, *p
		default:
			p.Account, p.Q = p.Account+uint32(r.Intn(2)), p.Q+little/2
		}
	case n < 8:
		s.Orders = spoilStood(r, s.Orders)
	default:
		s.Bids = spoilStood(r, s.Bids)
	}
}

func spoilStood(r *rand.Rand, l []api.Stood) []api.Stood {
	if len(l) == 0 {
		return l
	}
	i, j := r.Intn(len(l)), r.Intn(len(l))
	x := &l[i]
	switch r.Intn(9) {
	case 0:
		l[i], l[j] = l[j], l[i]
	case 1:
		x.Order.Price += r.Int63n(11) - 5
	case 2:
		x.Order.Left += r.Int63n(5) - 2
	case 3:
		x.Order.Number = one(r, l[j].Order.Number, x.Order.Number+1, x.Order.Number-1)
	case 4:
		x.Order.Account = l[j].Order.Account + uint32(r.Intn(2))
	case 5:
		x.Contract = l[j].Contract + uint32(r.Intn(4)/3)
	case 6:
		x.Order.Buy = !x.Order.Buy
	case 7:
		return slices.Delete(l, i, i+1)
	default:
		x.Order.Price = l[j].Order.Price
	}
	return l
}

// P16.3: of states that are a little changed, and those that are not, just those are taken that may be, and are told again.
func TestFromByChance(t *testing.T) {
	r := rand.New(rand.NewSource(163))
	taken, refused := 0, 0
	for range 20 {
		w := &walk{r: r, v: venue.New(), m: &model{api.State{Next: 1}}, seen: map[api.Cmd]map[api.Errno]int{}, told: map[string]int{}}
		w.begin(t)
		for range 150 {
			w.step(t)
			for range 6 {
				s := w.m.copy().State
				spoil(r, &s)
				v, e := venue.From(s)
				if may := plainMay(s); may != (e == api.OK) || may != (v != nil) {
					t.Fatalf("From answers the error %d of %+v", e, s)
				}
				if e == api.OK && !same(v.State(), s) {
					t.Fatalf("made of %+v is %+v", s, v.State())
				}
				if e == api.OK {
					taken++
				} else {
					refused++
				}
			}
		}
	}
	if taken < 3000 || refused < 3000 {
		t.Errorf("%d taken, %d refused: too few of either", taken, refused)
	}
}
