package venue

import (
	"slices"

	"broadside/api"
	"broadside/settle"
)

// settle goes on to the next day, marks all contracts and pays what was won.
func (v *Venue) settle() (api.Reply, api.Errno) {
	if e := v.calendar.Next(); e != api.OK {
		return api.Reply{}, e
	}
	won := map[uint32]int64{}
	for c := range v.living() {
		if e := v.mark(c, false, won); e != api.OK {
			return api.Reply{}, e
		}
	}
	r, e := v.pay(won)
	if e != api.OK {
		return api.Reply{}, e
	}
	return r, v.redeem(r.Accounts)
}

// expire closes a contract that is due, and pays what was won.
func (v *Venue) expire(contract uint32) (api.Reply, api.Errno) {
	if e := v.calendar.Expire(contract); e != api.OK {
		return api.Reply{}, e
	}
	c, e := v.calendar.Get(contract)
	if e != api.OK {
		return api.Reply{}, e
	}
	won := map[uint32]int64{}
	if e := v.mark(c, true, won); e != api.OK {
		return api.Reply{}, e
	}
	r, e := v.pay(won)
	if e != api.OK {
		return api.Reply{}, e
	}
	all := func(api.Order) bool { return true }
	r.Gone = append(r.Gone, numbers(v.drop(contract, all))...)
	delete(v.books, contract)
	return r, api.OK
}

// mark marks a contract at its price, and adds up for each account what it has won.
func (v *Venue) mark(c api.Contract, closed bool, won map[uint32]int64) api.Errno {
	l, e := v.ledger.Mark(c.Spec.Number, c.Price, closed)
	for _, x := range l {
		// It never wraps: sixteen contracts' are within MaxMoney.
		won[x.Account] += x.V
	}
	return e
}

// pay pays what accounts have won, and tells who is in default by it, and what of them goes.
func (v *Venue) pay(won map[uint32]int64) (api.Reply, api.Errno) {
	var dues []api.Due
	for a := range v.ledger.Accounts() {
		dues = append(dues, api.Due{Account: a.Number, Cash: a.Cash, V: won[a.Number]})
	}
	l, fund, e := settle.Settle(v.fund(), dues)
	if e != api.OK {
		return api.Reply{}, e
	}
	var r api.Reply
	for _, s := range l {
		if e := v.credit(s); e != api.OK {
			return api.Reply{}, e
		}
		if s.Default {
			r.Accounts = append(r.Accounts, s.Account)
			r.Gone = append(r.Gone, numbers(v.dropAll(of(s.Account)))...)
		}
	}
	return r, v.ledger.Set(api.Account{Cash: fund})
}

// credit gives an account the cash that is told, and the mark, if it is in default.
func (v *Venue) credit(s api.Settled) api.Errno {
	a, e := v.ledger.Get(s.Account)
	if e != api.OK {
		return e
	}
	a.Cash = s.Cash
	// Who could pay this time keeps the mark of an elder time.
	a.Default = a.Default || s.Default
	return v.ledger.Set(a)
}

// redeem takes the mark of those who hold nothing, but of those who are in default by this settlement.
func (v *Venue) redeem(failed []uint32) api.Errno {
	for a := range v.ledger.Accounts() {
		if !a.Default || slices.Contains(failed, a.Number) || v.holds(a.Number) {
			continue
		}
		a.Default = false
		if e := v.ledger.Set(a); e != api.OK {
			return e
		}
	}
	return api.OK
}

// holds tells whether an account holds anything.
func (v *Venue) holds(account uint32) bool {
	for range v.ledger.Held(account) {
		return true
	}
	return false
}
