package venue

import (
	"slices"

	"broadside/api"
	"broadside/sealed"
	"broadside/tearup"
)

// liquidate closes all positions of an account in default: by auctions, and what is left of them against the other side.
func (v *Venue) liquidate(account uint32) (api.Reply, api.Errno) {
	a, e := v.account(account)
	if e != api.OK {
		return api.Reply{}, e
	}
	if !a.Default {
		return api.Reply{}, api.ErrSolvent
	}
	var r api.Reply
	for c := range v.living() {
		sold, e := v.auction(c, account)
		if e != api.OK {
			return api.Reply{}, e
		}
		torn, e := v.tearUp(c, account)
		if e != api.OK {
			return api.Reply{}, e
		}
		r.Trades = slices.Concat(r.Trades, sold, torn)
		r.Filled += total(sold)
		r.Left += total(torn)
	}
	return r, api.OK
}

// auction sells what an account holds of a contract to the bids that buy, or buys what it owes from those that sell.
func (v *Venue) auction(c api.Contract, account uint32) ([]api.Trade, api.Errno) {
	contract := c.Spec.Number
	q := v.ledger.Position(contract, account).Q
	if q == 0 {
		return nil, api.OK
	}
	sells := q > 0
	opposite := func(o api.Order) bool { return o.Buy == sells }
	price, fills, e := sealed.Clear(sells, max(q, -q), sift(v.sealed(contract), opposite))
	if e != api.OK {
		return nil, e
	}
	var l []api.Trade
	for _, f := range fills {
		l = append(l, api.Trade{Price: price, Qty: f.Qty, Number: f.Number, Account: f.Account})
	}
	v.fillBids(contract, fills)
	return l, v.trade(contract, account, !sells, l)
}

// fillBids takes from a contract's bids what they got; where nothing is left, they go.
func (v *Venue) fillBids(contract uint32, fills []api.Fill) {
	l := v.bids[contract]
	for _, f := range fills {
		place := slices.IndexFunc(l, func(o api.Order) bool { return o.Number == f.Number })
		l[place].Left -= f.Qty
	}
	filled := func(o api.Order) bool { return o.Left == 0 }
	v.keepBids(contract, slices.DeleteFunc(l, filled))
}

// tearUp closes what an account holds of a contract against all others, at the price that counts.
func (v *Venue) tearUp(c api.Contract, account uint32) ([]api.Trade, api.Errno) {
	contract := c.Spec.Number
	q := v.ledger.Position(contract, account).Q
	if q == 0 {
		return nil, api.OK
	}
	var others []api.Holder
	for p := range v.ledger.Holders(contract) {
		if p.Account != account {
			others = append(others, api.Holder{Account: p.Account, Q: p.Q})
		}
	}
	parts, e := tearup.Parts(q, others)
	if e != api.OK {
		return nil, e
	}
	var l []api.Trade
	for _, h := range parts {
		l = append(l, api.Trade{Price: c.Price, Qty: h.Q, Account: h.Account})
	}
	return l, v.trade(contract, account, q < 0, l)
}

// total tells how much is traded.
func total(l []api.Trade) int64 {
	sum := int64(0)
	for _, t := range l {
		sum += t.Qty
	}
	return sum
}
