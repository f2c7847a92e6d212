package ledger_test

import (
	"slices"
	"testing"

	"broadside/api"
	"broadside/ledger"
)

// holdNone: no ledger is made from these.
func holdNone(t *testing.T, name string, fund int64, accounts []api.Account, positions ...api.Position) {
	t.Helper()
	if l, e := ledger.From(fund, accounts, positions); l != nil || e != api.ErrArg {
		t.Errorf("From, %s: %v, error %d", name, l, e)
	}
}

// P9.7: a ledger with these, which goes on like any other one.
func TestFrom(t *testing.T) {
	accounts := []api.Account{flagged(1, 10, true, false), flagged(4, 0, false, true), cash(last, 7)}
	held := []api.Position{pos(1, 1, 3, 0), pos(1, 4, -3, 0), pos(5, 1, 0, 8), pos(5, 4, 4, -10), pos(5, last, -4, 2), pos(last, 4, -1, 5), pos(last, last, 1, -5)}
	l := from(t, 6, accounts, held...)
	holdAll(t, "From", l, 6, accounts, held...)
	hold(t, "Deposit", l.Deposit(2, 5), api.OK)
	hold(t, "Trade", l.Trade(1, 4, 2, 10, 3), api.OK)
	holdMark(t, "Mark", l, 1, 10, true, won(1, 30), won(2, 0), won(4, -30))
	accounts = slices.Insert(accounts, 1, cash(2, 5))
	holdAll(t, "then", l, 6, accounts, held[2:]...)
}

// P9.7: nothing at all, in either form, and a fund alone.
func TestFromNothing(t *testing.T) {
	for _, fund := range []int64{0, 1, mostFunds} {
		holdAll(t, "nil", from(t, fund, nil), fund, nil)
		l, e := ledger.From(fund, []api.Account{}, []api.Position{})
		hold(t, "From", e, api.OK)
		holdAll(t, "empty", l, fund, nil)
	}
	l := from(t, 0, nil)
	hold(t, "Deposit", l.Deposit(1, 1), api.OK)
	holdAll(t, "then", l, 0, []api.Account{cash(1, 1)})
}

// P9.7: the fund and each cash are from 0 on, together at most MaxFunds; a sum that wraps does not count as small.
func TestFromFunds(t *testing.T) {
	for _, x := range []struct {
		fund int64
		cash []int64
		e    api.Errno
	}{
		{0, []int64{0, 0}, api.OK}, {mostFunds, []int64{0}, api.OK}, {0, []int64{mostFunds}, api.OK}, {mostFunds - 3, []int64{1, 2}, api.OK},
		{-1, nil, api.ErrArg}, {-1, []int64{1}, api.ErrArg}, {least, []int64{0}, api.ErrArg}, {mostFunds + 1, nil, api.ErrArg}, {greatest, nil, api.ErrArg},
		{0, []int64{-1}, api.ErrArg}, {5, []int64{5, -1}, api.ErrArg}, {5, []int64{-1, 5}, api.ErrArg}, {0, []int64{least}, api.ErrArg}, {0, []int64{0, least, 0}, api.ErrArg},
		{0, []int64{mostFunds + 1}, api.ErrArg}, {1, []int64{mostFunds}, api.ErrArg}, {mostFunds, []int64{0, 0, 1}, api.ErrArg}, {mostFunds - 3, []int64{2, 2}, api.ErrArg},
		{greatest, []int64{greatest}, api.ErrArg}, {0, []int64{greatest, greatest, 2}, api.ErrArg}, {1, []int64{greatest}, api.ErrArg},
		{greatest, []int64{greatest, 3}, api.ErrArg}, {mostFunds + 1, []int64{-1}, api.ErrArg}, {-1, []int64{mostFunds}, api.ErrArg}, {greatest, []int64{least + 5}, api.ErrArg},
	} {
		var accounts []api.Account
		for i, n := range x.cash {
			accounts = append(accounts, cash(uint32(i+1), n))
		}
		if x.e == api.OK {
			holdAll(t, "From", from(t, x.fund, accounts), x.fund, accounts)
		} else {
			holdNone(t, "funds", x.fund, accounts)
		}
	}
}

// P9.7: the accounts rise, and none is 0.
func TestFromAccounts(t *testing.T) {
	for _, x := range []struct {
		numbers []uint32
		e       api.Errno
	}{
		{[]uint32{1}, api.OK}, {[]uint32{1, 2, 3}, api.OK}, {[]uint32{7, 1 << 31, last}, api.OK}, {[]uint32{last}, api.OK},
		{[]uint32{0}, api.ErrArg}, {[]uint32{0, 1}, api.ErrArg}, {[]uint32{1, 0}, api.ErrArg}, {[]uint32{0, 0}, api.ErrArg},
		{[]uint32{1, 1}, api.ErrArg}, {[]uint32{2, 1}, api.ErrArg}, {[]uint32{1, 3, 2}, api.ErrArg}, {[]uint32{1, 2, 2}, api.ErrArg},
		{[]uint32{3, 1, 2}, api.ErrArg}, {[]uint32{1, last, 2}, api.ErrArg}, {[]uint32{last, last}, api.ErrArg},
	} {
		var accounts []api.Account
		for _, n := range x.numbers {
			accounts = append(accounts, cash(n, 1))
		}
		if x.e == api.OK {
			holdAll(t, "From", from(t, 0, accounts), 0, accounts)
		} else {
			holdNone(t, "accounts", 0, accounts)
		}
	}
}

// P9.7: sixty-four accounts, and no more.
func TestFromMany(t *testing.T) {
	var accounts []api.Account
	for n := range uint32(64) {
		accounts = append(accounts, cash(n+1, int64(n)))
	}
	l := from(t, 5, accounts)
	holdAll(t, "sixty-four", l, 5, accounts)
	hold(t, "Deposit of one more", l.Deposit(65, 1), api.ErrFull)
	holdNone(t, "sixty-five", 5, append(accounts, cash(65, 0)))
	holdNone(t, "the fund and sixty-four", 5, append([]api.Account{cash(0, 0)}, accounts...))
	for n := range uint32(1000) {
		accounts = append(accounts, cash(n+65, 0))
	}
	holdNone(t, "very many", 5, accounts)
}

// P9.7: sixty-four holders of a contract, at the bounds.
func TestFromManyHolders(t *testing.T) {
	var accounts []api.Account
	var held []api.Position
	for n := range uint32(64) {
		way := int64(1) - 2*int64(n%2)
		accounts = append(accounts, cash(n+1, 0))
		held = append(held, pos(5, n+1, way*mostQ, -way*mostBasis))
	}
	holdAll(t, "sixty-four", from(t, 0, accounts, held...), 0, accounts, held...)
	holdNone(t, "sixty-three", 0, accounts, held[:63]...)
}

// P9.7: one wrong position is enough, wherever it stands.
func TestFromPositions(t *testing.T) {
	accounts := []api.Account{cash(1, 5), cash(2, 5), cash(3, 5), cash(4, 5)}
	good := []api.Position{pos(5, 1, 3, 30), pos(5, 2, -3, -30), pos(6, 1, -1, 4), pos(6, 3, 0, -4), pos(6, 4, 1, 0)}
	holdAll(t, "good", from(t, 0, accounts, good...), 0, accounts, good...)
	for name, change := range map[string]func(p *api.Position){
		"the contract 0":               func(p *api.Position) { p.Contract = 0 },
		"the account 0":                func(p *api.Position) { p.Account = 0 },
		"an account that is not there": func(p *api.Position) { p.Account = 9 },
		"nothing held":                 func(p *api.Position) { p.Q, p.Basis = 0, 0 },
		"a quantity more":              func(p *api.Position) { p.Q++ },
		"a quantity less":              func(p *api.Position) { p.Q-- },
		"a basis more":                 func(p *api.Position) { p.Basis++ },
		"a basis less":                 func(p *api.Position) { p.Basis-- },
		"the other contract":           func(p *api.Position) { p.Contract = 11 - p.Contract },
		"another contract":             func(p *api.Position) { p.Contract += 7 },
		"a quantity far off":           func(p *api.Position) { p.Q = greatest },
		"a quantity far below":         func(p *api.Position) { p.Q = least },
		"a basis far off":              func(p *api.Position) { p.Basis = greatest },
		"a basis far below":            func(p *api.Position) { p.Basis = least },
		"the zero position":            func(p *api.Position) { *p = api.Position{} },
	} {
		for i := range good {
			l := slices.Clone(good)
			change(&l[i])
			holdNone(t, name, 0, accounts, l...)
		}
	}
	for i := range good {
		holdNone(t, "one missing", 0, accounts, slices.Delete(slices.Clone(good), i, i+1)...)
		holdNone(t, "one twice", 0, accounts, slices.Insert(slices.Clone(good), i, good[i])...)
	}
}

// P9.7: what is wrong is wrong on both sides of a contract, though both add up to 0.
func TestFromPairs(t *testing.T) {
	accounts := []api.Account{cash(1, 5), cash(2, 5), cash(4, 5)}
	for _, x := range []struct {
		name     string
		contract uint32
		a, b     uint32
		q, basis int64
		e        api.Errno
	}{
		{"within", 5, 1, 2, 3, 30, api.OK}, {"at the bounds", 5, 1, 4, mostQ, mostBasis, api.OK}, {"at the bounds, the other way", last, 2, 4, -mostQ, -mostBasis, api.OK},
		{"a quantity alone", 1, 1, 2, 1, 0, api.OK}, {"a basis alone", 1, 1, 2, 0, 1, api.OK},
		{"no contract", 0, 1, 2, 3, 30, api.ErrArg}, {"the fund", 5, 0, 2, 3, 30, api.ErrArg}, {"nobody", 5, 1, 3, 3, 30, api.ErrArg}, {"nobody at all", 5, 5, 6, 3, 30, api.ErrArg},
		{"nothing", 5, 1, 2, 0, 0, api.ErrArg}, {"too much", 5, 1, 2, mostQ + 1, 30, api.ErrArg}, {"too little", 5, 1, 2, -mostQ - 1, 30, api.ErrArg},
		{"a basis too great", 5, 1, 2, 3, mostBasis + 1, api.ErrArg}, {"a basis too small", 5, 1, 2, 3, -mostBasis - 1, api.ErrArg},
		{"all there is", 5, 1, 2, greatest, greatest, api.ErrArg}, {"what has no negative", 5, 1, 2, least, least, api.ErrArg},
		{"falling accounts", 5, 2, 1, 3, 30, api.ErrArg}, {"one account", 5, 1, 1, 3, 30, api.ErrArg},
	} {
		l := []api.Position{pos(x.contract, x.a, x.q, x.basis), pos(x.contract, x.b, -x.q, -x.basis)}
		if x.e == api.OK {
			holdAll(t, x.name, from(t, 0, accounts, l...), 0, accounts, l...)
		} else {
			holdNone(t, x.name, 0, accounts, l...)
		}
	}
	holdNone(t, "positions without accounts", 0, nil, pos(5, 1, 3, 30), pos(5, 2, -3, -30))
}

// P9.7: contracts rise, then accounts: contracts apart, and in between one another, do not.
func TestFromOrder(t *testing.T) {
	accounts := []api.Account{cash(1, 5), cash(2, 5), cash(3, 5)}
	a, b, c, d := pos(5, 2, 3, 30), pos(5, 3, -3, -30), pos(6, 1, 4, 40), pos(6, 2, -4, -40)
	holdAll(t, "rising", from(t, 0, accounts, a, b, c, d), 0, accounts, a, b, c, d)
	for _, l := range [][]api.Position{{c, d, a, b}, {b, a, c, d}, {a, b, d, c}, {a, c, b, d}, {c, a, d, b}, {a, a, b, b}, {d, c, b, a}} {
		holdNone(t, "not rising", 0, accounts, l...)
	}
	three := []api.Position{pos(5, 1, 1, 1), pos(5, 2, 1, 1), pos(5, 3, -2, -2)}
	holdAll(t, "three", from(t, 0, accounts, three...), 0, accounts, three...)
	holdNone(t, "three, the last one first", 0, accounts, three[2], three[0], three[1])
}

// P9.7: quantities and bases add up to 0 in each contract, not over all of them, and each for itself.
func TestFromEvenOut(t *testing.T) {
	accounts := []api.Account{cash(1, 5), cash(2, 5)}
	holdNone(t, "over two contracts", 0, accounts, pos(5, 1, 3, 30), pos(6, 2, -3, -30))
	holdNone(t, "both sides off", 0, accounts, pos(5, 1, 3, 30), pos(5, 2, -2, -30), pos(6, 1, 3, 30), pos(6, 2, -4, -30))
	holdNone(t, "bases off", 0, accounts, pos(5, 1, 3, 30), pos(5, 2, -3, -29), pos(6, 1, 3, 30), pos(6, 2, -3, -31))
	holdNone(t, "one's quantity and basis", 0, accounts, pos(5, 1, 3, -3))
	holdNone(t, "quantities and bases", 0, accounts, pos(5, 1, 3, -1), pos(5, 2, -1, -1))
	holdNone(t, "one alone", 0, accounts, pos(5, 1, 0, 1))
	holdNone(t, "one alone", 0, accounts, pos(5, 1, 1, 0))
}

// P9.7, R2: what is handed in stays as it was, and is not kept.
func TestFromLeavesItsLists(t *testing.T) {
	accounts := []api.Account{cash(1, 5), cash(2, 6), cash(3, 7)}
	held := []api.Position{pos(5, 1, 3, 30), pos(5, 2, -3, -30), pos(5, 3, 1, 1)}
	l, e := ledger.From(4, accounts[:2], held[:2])
	hold(t, "From", e, api.OK)
	hold(t, "Deposit", l.Deposit(1, 5), api.OK)
	hold(t, "Deposit", l.Deposit(9, 5), api.OK)
	hold(t, "Trade", l.Trade(5, 1, 9, 10, 1), api.OK)
	if !slices.Equal(accounts, []api.Account{cash(1, 5), cash(2, 6), cash(3, 7)}) || !slices.Equal(held, []api.Position{pos(5, 1, 3, 30), pos(5, 2, -3, -30), pos(5, 3, 1, 1)}) {
		t.Errorf("From wrote to what it was handed: %v, %v", accounts, held)
	}
	clear(accounts)
	clear(held)
	holdAll(t, "the lists written over", l, 4, []api.Account{cash(1, 10), cash(2, 6), cash(9, 5)}, pos(5, 1, 4, 40), pos(5, 2, -3, -30), pos(5, 9, -1, -10))
}
