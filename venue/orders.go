package venue

import (
	"broadside/api"
	"broadside/gate"
)

// place lets an order come.
func (v *Venue) place(c api.Command) (api.Reply, api.Errno) {
	o, e := v.admit(c)
	if e != api.OK {
		return api.Reply{}, e
	}
	p, e := v.books[c.Contract].Place(o, c.As)
	if e != api.OK {
		return api.Reply{}, e
	}
	return v.placed(c.Contract, o, p)
}

// bid lets a sealed bid come.
func (v *Venue) bid(c api.Command) (api.Reply, api.Errno) {
	o, e := v.admit(c)
	if e != api.OK {
		return api.Reply{}, e
	}
	l := v.bids[c.Contract]
	if len(l) >= api.MaxBids {
		return api.Reply{}, api.ErrFull
	}
	v.keepBids(c.Contract, append(l, o))
	return api.Reply{Number: o.Number, Left: o.Left}, v.bears(o.Account)
}

// replace gives an account's order another price and quantity.
func (v *Venue) replace(c api.Command) (api.Reply, api.Errno) {
	x, o, e := v.find(c.Account, c.Number)
	if e != api.OK {
		return api.Reply{}, e
	}
	o.Price, o.Left = c.Price, c.Qty
	if e := v.check(x, o); e != api.OK {
		return api.Reply{}, e
	}
	p, e := v.books[x.Spec.Number].Replace(c.Number, c.Price, c.Qty)
	if e != api.OK {
		return api.Reply{}, e
	}
	return v.placed(x.Spec.Number, o, p)
}

// cancel lets an account's order or bid go.
func (v *Venue) cancel(account uint32, number uint64) (api.Reply, api.Errno) {
	if e := gate.CheckCancel(api.Account{Number: account}); e != api.OK {
		return api.Reply{}, e
	}
	gone := v.dropAll(func(o api.Order) bool { return o.Account == account && o.Number == number })
	if len(gone) == 0 {
		return api.Reply{}, api.ErrNone
	}
	return api.Reply{Number: number, Left: gone[0].Left}, api.OK
}

// mass lets all of an account's orders and bids go in a contract; in all, if that is 0.
func (v *Venue) mass(account, contract uint32) (api.Reply, api.Errno) {
	if _, e := v.account(account); e != api.OK {
		return api.Reply{}, e
	}
	if contract == 0 {
		return api.Reply{Gone: numbers(v.dropAll(of(account)))}, api.OK
	}
	if _, e := v.calendar.Get(contract); e != api.OK {
		return api.Reply{}, e
	}
	return api.Reply{Gone: numbers(v.drop(contract, of(account)))}, api.OK
}

// kill gives an account its mark, with which no order of it may stand or come, or takes it.
func (v *Venue) kill(account uint32, on bool) (api.Reply, api.Errno) {
	a, e := v.account(account)
	if e != api.OK {
		return api.Reply{}, e
	}
	a.Killed = on
	if e := v.ledger.Set(a); e != api.OK || !on {
		return api.Reply{}, e
	}
	return api.Reply{Gone: numbers(v.dropAll(of(account)))}, api.OK
}

// account answers an account, and ErrArg of the fund.
func (v *Venue) account(number uint32) (api.Account, api.Errno) {
	if number == 0 {
		return api.Account{}, api.ErrArg
	}
	return v.ledger.Get(number)
}

// admit answers what wants to come, with the next number, if the gate lets it in.
func (v *Venue) admit(c api.Command) (api.Order, api.Errno) {
	if _, e := v.account(c.Account); e != api.OK {
		return api.Order{}, e
	}
	x, e := v.calendar.Get(c.Contract)
	if e != api.OK {
		return api.Order{}, e
	}
	o := api.Order{Number: v.next, Account: c.Account, Buy: c.Buy, Price: c.Price, Left: c.Qty}
	if e := v.check(x, o); e != api.OK {
		return api.Order{}, e
	}
	if v.next > api.MaxNumber {
		return api.Order{}, api.ErrOverflow
	}
	v.next++
	return o, api.OK
}

// find answers an account's order, and its contract.
func (v *Venue) find(account uint32, number uint64) (api.Contract, api.Order, api.Errno) {
	if account == 0 {
		return api.Contract{}, api.Order{}, api.ErrArg
	}
	for c := range v.living() {
		o, e := v.books[c.Spec.Number].Get(number)
		if e == api.OK && o.Account == account {
			return c, o, api.OK
		}
	}
	return api.Contract{}, api.Order{}, api.ErrNone
}

// check asks the gate about an order of an account that is there.
func (v *Venue) check(c api.Contract, o api.Order) api.Errno {
	a, _ := v.ledger.Get(o.Account)
	g := api.Gate{Contract: c, Account: a, Q: v.ledger.Position(c.Spec.Number, o.Account).Q, Buy: o.Buy, Price: o.Price, Qty: o.Left}
	// One that is replaced stands there still, with its number, and is not to count twice.
	others := func(x api.Order) bool { return x.Account == o.Account && x.Number != o.Number }
	for _, x := range sift(v.standing(c.Spec.Number), others) {
		if x.Buy {
			g.Buys += x.Left
		} else {
			g.Sells += x.Left
		}
	}
	return gate.Check(g)
}

// placed trades what the book says of an order that came, and tells it, if the account can bear it.
func (v *Venue) placed(contract uint32, o api.Order, p api.Placed) (api.Reply, api.Errno) {
	if e := v.trade(contract, o.Account, o.Buy, p.Trades); e != api.OK {
		return api.Reply{}, e
	}
	r := api.Reply{Number: o.Number, Filled: p.Filled, Left: p.Left, Trades: p.Trades, Gone: p.Gone}
	return r, v.bears(o.Account)
}

// trade lets an account buy, or sell, what the trades say of those whom they name.
func (v *Venue) trade(contract, account uint32, buys bool, l []api.Trade) api.Errno {
	for _, t := range l {
		buyer, seller := account, t.Account
		if !buys {
			buyer, seller = seller, buyer
		}
		if e := v.ledger.Trade(contract, buyer, seller, t.Price, t.Qty); e != api.OK {
			return e
		}
	}
	return api.OK
}
