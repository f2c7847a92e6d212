package venue

import (
	"iter"
	"slices"

	"broadside/api"
	"broadside/expose"
)

// living tells the contracts that are not expired, by rising numbers.
func (v *Venue) living() iter.Seq[api.Contract] {
	return func(yield func(api.Contract) bool) {
		for c := range v.calendar.All() {
			if c.State != api.Expired && !yield(c) {
				return
			}
		}
	}
}

// resting tells a contract's orders, as they stand in its book.
func (v *Venue) resting(contract uint32) iter.Seq[api.Order] { return v.books[contract].All() }

// sealed tells a contract's bids, as they came.
func (v *Venue) sealed(contract uint32) iter.Seq[api.Order] { return slices.Values(v.bids[contract]) }

// standing tells all that stands in a contract: its orders, and behind them its bids.
func (v *Venue) standing(contract uint32) iter.Seq[api.Order] {
	return func(yield func(api.Order) bool) {
		for _, tell := range []func(uint32) iter.Seq[api.Order]{v.resting, v.sealed} {
			for o := range tell(contract) {
				if !yield(o) {
					return
				}
			}
		}
	}
}

// stood collects what is told of each contract, by rising numbers.
func (v *Venue) stood(tell func(contract uint32) iter.Seq[api.Order]) []api.Stood {
	var l []api.Stood
	for c := range v.calendar.All() {
		for o := range tell(c.Spec.Number) {
			l = append(l, api.Stood{Contract: c.Spec.Number, Order: o})
		}
	}
	return l
}

// sift answers those orders of which what is asked is so.
func sift(l iter.Seq[api.Order], asked func(api.Order) bool) []api.Order {
	var sifted []api.Order
	for o := range l {
		if asked(o) {
			sifted = append(sifted, o)
		}
	}
	return sifted
}

// of asks whether an order is an account's.
func of(account uint32) func(api.Order) bool {
	return func(o api.Order) bool { return o.Account == account }
}

// drop lets all of a contract's orders and bids go of which what is asked is so, and answers them as they stood.
func (v *Venue) drop(contract uint32, goes func(api.Order) bool) []api.Order {
	gone := sift(v.standing(contract), goes)
	for _, o := range gone {
		// Of a bid the book tells that it has none of that number.
		v.books[contract].Cancel(o.Number)
	}
	v.keepBids(contract, slices.DeleteFunc(v.bids[contract], goes))
	return gone
}

// dropAll lets them go in all contracts. That of one that is just expired still stands.
func (v *Venue) dropAll(goes func(api.Order) bool) []api.Order {
	var gone []api.Order
	for c := range v.calendar.All() {
		gone = append(gone, v.drop(c.Spec.Number, goes)...)
	}
	return gone
}

// keepBids makes these a contract's bids; one that has none stands nowhere.
func (v *Venue) keepBids(contract uint32, l []api.Order) {
	if len(l) == 0 {
		delete(v.bids, contract)
		return
	}
	v.bids[contract] = l
}

// numbers are the orders' numbers.
func numbers(l []api.Order) []uint64 {
	var all []uint64
	for _, o := range l {
		all = append(all, o.Number)
	}
	return all
}

// stakes are what an account has in each contract in which it has something.
func (v *Venue) stakes(account uint32) []api.Stake {
	var l []api.Stake
	for c := range v.living() {
		p := v.ledger.Position(c.Spec.Number, account)
		open := sift(v.standing(c.Spec.Number), of(account))
		if p.Q != 0 || p.Basis != 0 || len(open) > 0 {
			l = append(l, api.Stake{Leg: api.Leg{Spec: c.Spec, Q: p.Q}, Basis: p.Basis, Price: c.Price, Orders: open})
		}
	}
	return l
}

// bears tells ErrMargin, if the account can't bear its stakes.
func (v *Venue) bears(account uint32) api.Errno {
	n, e := v.Need(account)
	if e != api.OK {
		return e
	}
	if a, _ := v.ledger.Get(account); a.Cash < expose.Total(n) {
		return api.ErrMargin
	}
	return api.OK
}
