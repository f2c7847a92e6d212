package book

import (
	"broadside/api"
	"broadside/side"
)

// missing tells whether the book is not there, or a zero one.
func (b *Book) missing() bool { return b == nil || b.buys == nil }

// side answers the side that buys, or that sells.
func (b *Book) side(buy bool) *side.Side {
	if buy {
		return b.buys
	}
	return b.sells
}

// refused tells why an order that comes is refused; OK, if it is not.
func (b *Book) refused(o api.Order, k api.Kind) api.Errno {
	if !side.May(o) || !known(k) {
		return api.ErrArg
	}
	if _, e := b.Get(o.Number); e == api.OK {
		return api.ErrTwice
	}
	reach := b.side(!o.Buy).Reach(o.Price, o.Account)
	full := b.side(o.Buy).Len() >= api.MaxOrders
	switch {
	case k == api.KindAll && reach < o.Left:
		return api.ErrAll
	case k == api.KindPost && reach > 0:
		return api.ErrCross
	case rests(k) && reach < o.Left && full:
		return api.ErrFull
	}
	return api.OK
}

// meet lets an order meet the other side's, and tells its trades and which of its own account's went.
func (b *Book) meet(o api.Order) api.Placed {
	var p api.Placed
	other := b.side(!o.Buy)
coming:
	for o.Left > 0 {
		first, there := other.Best()
		switch {
		case !there || !meets(o, first):
			break coming
		case first.Account == o.Account:
			other.Drop(first.Number)
			p.Gone = append(p.Gone, first.Number)
			continue coming
		}
		n := min(o.Left, first.Left)
		other.Fill(n)
		o.Left -= n
		p.Filled += n
		p.Trades = append(p.Trades, api.Trade{Price: first.Price, Qty: n, Number: first.Number, Account: first.Account})
	}
	return p
}

// meets tells whether an order's price is as good as the other side's order asks.
func meets(o, other api.Order) bool {
	if o.Buy {
		return other.Price <= o.Price
	}
	return other.Price >= o.Price
}

// known tells whether a kind is one of the four.
func known(k api.Kind) bool {
	switch k {
	case api.KindLimit, api.KindNow, api.KindAll, api.KindPost:
		return true
	}
	return false
}

// rests tells whether what is left of an order of that kind rests.
func rests(k api.Kind) bool { return k == api.KindLimit || k == api.KindPost }
