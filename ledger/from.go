package ledger

import (
	"slices"

	"broadside/api"
	"broadside/fixnum"
)

// sums are what of a contract adds up to 0.
type sums struct{ q, basis int64 }

// From answers a ledger with that fund, these accounts and these positions.
func From(fund int64, accounts []api.Account, positions []api.Position) (*Ledger, api.Errno) {
	if len(accounts) > api.MaxAccounts || !numbersRise(accounts) || !fundsMay(fund, accounts) {
		return nil, api.ErrArg
	}
	l := New()
	l.fund = fund
	for _, a := range accounts {
		l.put(a)
	}
	if !placesRise(positions) || slices.ContainsFunc(positions, l.mayNotHold) || !evenOut(positions) {
		return nil, api.ErrArg
	}
	for _, p := range positions {
		l.keep(p)
	}
	return l, api.OK
}

// numbersRise tells whether the accounts rise, and none is 0.
func numbersRise(l []api.Account) bool {
	last := uint32(0)
	for _, a := range l {
		if a.Number <= last {
			return false
		}
		last = a.Number
	}
	return true
}

// fundsMay tells whether the fund and each cash are from 0 on, and together what funds may be.
func fundsMay(fund int64, accounts []api.Account) bool {
	all := []int64{fund}
	for _, a := range accounts {
		all = append(all, a.Cash)
	}
	below := func(n int64) bool { return n < 0 }
	sum, e := fixnum.Sum(all...)
	return !slices.ContainsFunc(all, below) && e == api.OK && sum <= api.MaxFunds
}

// placesRise tells whether the positions rise: by contracts, then by accounts.
func placesRise(l []api.Position) bool {
	for i := 1; i < len(l); i++ {
		a, b := l[i-1], l[i]
		if a.Contract > b.Contract || a.Contract == b.Contract && a.Account >= b.Account {
			return false
		}
	}
	return true
}

// mayNotHold tells whether a position may not be. The fund is there without being an account, and holds nothing.
func (l *Ledger) mayNotHold(p api.Position) bool {
	empty := p.Q == 0 && p.Basis == 0
	return p.Contract == 0 || p.Account == 0 || !l.there(p.Account) || empty || !inBounds(p)
}

// evenOut tells whether of each contract the quantities add up to 0, and the bases too. No sum wraps: the positions of a contract are within bounds, and at most as many as accounts.
func evenOut(l []api.Position) bool {
	by := map[uint32]sums{}
	for _, p := range l {
		s := by[p.Contract]
		by[p.Contract] = sums{s.q + p.Q, s.basis + p.Basis}
	}
	for _, s := range by {
		if s != (sums{}) {
			return false
		}
	}
	return true
}
