package venue

import (
	"slices"

	"broadside/api"
	"broadside/book"
	"broadside/calendar"
	"broadside/ledger"
	"broadside/side"
	"broadside/spec"
)

// From answers a venue with that state, if it may be.
func From(s api.State) (*Venue, api.Errno) {
	c, e := calendar.From(s.Day, s.Contracts)
	if e != api.OK {
		return nil, api.ErrArg
	}
	l, e := ledger.From(s.Fund, s.Accounts, s.Positions)
	if e != api.OK || s.Next < 1 || s.Next > api.MaxNumber+1 {
		return nil, api.ErrArg
	}
	v := made(c, l, s.Next)
	for x := range v.living() {
		v.books[x.Spec.Number] = book.New()
	}
	nowhere := func(p api.Position) bool { return !v.lives(p.Contract) }
	if slices.ContainsFunc(s.Positions, nowhere) || !v.numbersMay(s) || !v.seatOrders(s.Orders) || !v.seatBids(s.Bids) {
		return nil, api.ErrArg
	}
	return v, api.OK
}

// lives tells whether a contract is there and not expired.
func (v *Venue) lives(contract uint32) bool {
	_, there := v.books[contract]
	return there
}

// numbersMay tells whether the numbers of orders and bids are unlike, and below the next one.
func (v *Venue) numbersMay(s api.State) bool {
	seen := map[uint64]struct{}{}
	for _, x := range slices.Concat(s.Orders, s.Bids) {
		if _, there := seen[x.Order.Number]; there || x.Order.Number >= v.next {
			return false
		}
		seen[x.Order.Number] = struct{}{}
	}
	return true
}

// seatOrders lets orders come, one behind the other, and tells whether they may be, and stand then as they did.
func (v *Venue) seatOrders(l []api.Stood) bool {
	for _, x := range l {
		c, may := v.mayStand(x)
		if !may || !spec.IsQty(c.Spec, x.Order.Left) {
			return false
		}
		// The kind that does not trade; but it lets its own account's orders go, where it crosses them.
		if _, e := v.books[x.Contract].Place(x.Order, api.KindPost); e != api.OK {
			return false
		}
	}
	return slices.Equal(v.stood(v.resting), l)
}

// seatBids likewise lets bids come, of which the numbers tell who came first.
func (v *Venue) seatBids(l []api.Stood) bool {
	for _, x := range l {
		bids := v.bids[x.Contract]
		later := func(o api.Order) bool { return o.Number > x.Order.Number }
		if _, may := v.mayStand(x); !may || len(bids) >= api.MaxBids || slices.ContainsFunc(bids, later) {
			return false
		}
		v.keepBids(x.Contract, append(bids, x.Order))
	}
	return slices.Equal(v.stood(v.sealed), l)
}

// mayStand answers an order's contract, and whether the order may stand there, of that account, at that price.
func (v *Venue) mayStand(x api.Stood) (api.Contract, bool) {
	a, noAccount := v.ledger.Get(x.Order.Account)
	c, noContract := v.calendar.Get(x.Contract)
	there := noAccount == api.OK && noContract == api.OK && v.lives(x.Contract)
	return c, there && !a.Default && !a.Killed && side.May(x.Order) && spec.IsPrice(c.Spec, x.Order.Price)
}
