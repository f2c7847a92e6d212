package ledger_test

import (
	"math"
	"slices"
	"testing"

	"broadside/api"
	"broadside/ledger"
)

const (
	least     = math.MinInt64
	greatest  = math.MaxInt64
	mostFunds = int64(1_000_000_000_000_000)
	mostBasis = int64(1_000_000_000_000_000)
	mostQ     = int64(10_000_000)
	mostPrice = int64(10_000_000)
	last      = uint32(math.MaxUint32)
)

// cash is an account without flags.
func cash(number uint32, amount int64) api.Account { return api.Account{Number: number, Cash: amount} }

// flagged is an account with these flags.
func flagged(number uint32, amount int64, killed, inDefault bool) api.Account {
	return api.Account{Number: number, Cash: amount, Killed: killed, Default: inDefault}
}

// pos is a position.
func pos(contract, account uint32, q, basis int64) api.Position {
	return api.Position{Contract: contract, Account: account, Q: q, Basis: basis}
}

// won is a variation.
func won(account uint32, v int64) api.Variation { return api.Variation{Account: account, V: v} }

// rich is a new ledger in which accounts from 1 on have that cash.
func rich(t *testing.T, amounts ...int64) *ledger.Ledger {
	t.Helper()
	l := ledger.New()
	for i, n := range amounts {
		hold(t, "Deposit", l.Deposit(uint32(i+1), n), api.OK)
	}
	return l
}

// from is a ledger with these.
func from(t *testing.T, fund int64, accounts []api.Account, positions ...api.Position) *ledger.Ledger {
	t.Helper()
	l, e := ledger.From(fund, accounts, positions)
	hold(t, "From", e, api.OK)
	if l == nil {
		t.Fatal("From answers none")
	}
	return l
}

// traded is the chapter's ledger.
func traded(t *testing.T) *ledger.Ledger {
	t.Helper()
	l := rich(t, 100, 100)
	hold(t, "Trade", l.Trade(5, 1, 2, 10, 3), api.OK)
	return l
}

func hold(t *testing.T, name string, got, want api.Errno) {
	t.Helper()
	if got != want {
		t.Errorf("%s: error %d, want %d", name, got, want)
	}
}

// holdGet: the account is that.
func holdGet(t *testing.T, name string, l *ledger.Ledger, want api.Account) {
	t.Helper()
	if got, e := l.Get(want.Number); e != api.OK || got != want {
		t.Errorf("%s: Get answers %v, error %d; want %v", name, got, e, want)
	}
}

// holdMark: marking tells these variations.
func holdMark(t *testing.T, name string, l *ledger.Ledger, contract uint32, price int64, closed bool, want ...api.Variation) {
	t.Helper()
	if got, e := l.Mark(contract, price, closed); e != api.OK || !slices.Equal(got, want) {
		t.Errorf("%s: Mark answers %v, error %d; want %v", name, got, e, want)
	}
}

// holdAll: the ledger has that fund and these accounts, whole, and no others; their positions, by contracts and then accounts, are these, whichever way they are asked for.
func holdAll(t *testing.T, name string, l *ledger.Ledger, fund int64, accounts []api.Account, positions ...api.Position) {
	t.Helper()
	holdGet(t, name, l, cash(0, fund))
	if got := slices.Collect(l.Accounts()); !slices.Equal(got, accounts) {
		t.Errorf("%s: the accounts %v, want %v", name, got, accounts)
	}
	sum := fund
	for _, a := range accounts {
		holdGet(t, name, l, a)
		sum += a.Cash
		var want []api.Position
		for _, p := range positions {
			if p.Account == a.Number {
				want = append(want, p)
			}
		}
		if got := slices.Collect(l.Held(a.Number)); !slices.Equal(got, want) {
			t.Errorf("%s: %d holds %v, want %v", name, a.Number, got, want)
		}
	}
	if l.Funds() != sum {
		t.Errorf("%s: Funds %d, want %d", name, l.Funds(), sum)
	}
	contracts := map[uint32][]api.Position{5: nil, 6: nil}
	for _, p := range positions {
		contracts[p.Contract] = append(contracts[p.Contract], p)
		if got := l.Position(p.Contract, p.Account); got != p {
			t.Errorf("%s: the position %v, want %v", name, got, p)
		}
	}
	for contract, want := range contracts {
		if got := slices.Collect(l.Holders(contract)); !slices.Equal(got, want) {
			t.Errorf("%s: the holders %v, want %v", name, got, want)
		}
	}
}

// The chapter's examples.
func TestExamples(t *testing.T) {
	l := traded(t)
	two := []api.Account{cash(1, 100), cash(2, 100)}
	holdAll(t, "traded", l, 0, two, pos(5, 1, 3, 30), pos(5, 2, -3, -30))
	holdMark(t, "Mark", l, 5, 12, false, won(1, 6), won(2, -6))
	holdAll(t, "marked", l, 0, two, pos(5, 1, 3, 36), pos(5, 2, -3, -36))
	holdMark(t, "Mark and close", l, 5, 12, true, won(1, 0), won(2, 0))
	holdAll(t, "closed", l, 0, two)
	hold(t, "Trade with oneself", l.Trade(5, 1, 1, 10, 3), api.ErrArg)
	hold(t, "Trade with nobody", l.Trade(5, 1, 9, 10, 3), api.ErrNone)
}

// P9.5: a new ledger has nothing.
func TestNew(t *testing.T) {
	l := ledger.New()
	holdAll(t, "New", l, 0, nil)
	if got, e := l.Get(1); got != (api.Account{}) || e != api.ErrNone {
		t.Errorf("Get: %v, error %d", got, e)
	}
	hold(t, "Deposit into another new one", ledger.New().Deposit(1, 5), api.OK)
	holdAll(t, "New, behind another new one", l, 0, nil)
}

// amounts are such as may not be put in or taken out.
var amounts = []int64{0, -1, -5, least, mostFunds + 1, 2 * mostFunds, greatest, least + 1}

// P9.1: amounts from the least to the greatest, and none beyond.
func TestDepositAmounts(t *testing.T) {
	for _, account := range []uint32{0, 1, 7, last} {
		for _, n := range amounts {
			l := rich(t, 9)
			hold(t, "Deposit", l.Deposit(account, n), api.ErrArg)
			holdAll(t, "refused", l, 0, []api.Account{cash(1, 9)})
		}
		for _, n := range []int64{1, 2, 1 << 32, mostFunds - 1, mostFunds} {
			l := ledger.New()
			hold(t, "Deposit", l.Deposit(account, n), api.OK)
			if account == 0 {
				holdAll(t, "the fund", l, n, nil)
			} else {
				holdAll(t, "an account", l, 0, []api.Account{cash(account, n)})
			}
		}
	}
}

// P9.1: what is put in comes to what is there; flags stay.
func TestDepositAdds(t *testing.T) {
	l := rich(t, 10, 20, 30)
	hold(t, "Set", l.Set(flagged(2, 20, true, false)), api.OK)
	hold(t, "Set", l.Set(flagged(3, 30, false, true)), api.OK)
	for _, account := range []uint32{0, 1, 2, 3, 3, 0} {
		hold(t, "Deposit", l.Deposit(account, 4), api.OK)
	}
	holdAll(t, "Deposit", l, 8, []api.Account{cash(1, 14), flagged(2, 24, true, false), flagged(3, 38, false, true)})
}

// P9.1: sixty-four accounts beside the fund, and no more; the fund is none of them.
func TestDepositFull(t *testing.T) {
	for _, fund := range []int64{0, 5} {
		l := ledger.New()
		if fund > 0 {
			hold(t, "Deposit of the fund", l.Deposit(0, fund), api.OK)
		}
		var want []api.Account
		for n := range uint32(64) {
			hold(t, "Deposit", l.Deposit(1000-10*n, 1), api.OK)
			want = append(want, cash(1000-10*(63-n), 1))
		}
		for _, account := range []uint32{1, 369, 371, 1001, last} {
			hold(t, "Deposit of one more", l.Deposit(account, 1), api.ErrFull)
			hold(t, "Deposit of one more, all that may be", l.Deposit(account, mostFunds), api.ErrFull)
			hold(t, "Deposit of one more, nothing", l.Deposit(account, 0), api.ErrArg)
		}
		holdAll(t, "full", l, fund, want)
		hold(t, "Deposit of one that is there", l.Deposit(370, 3), api.OK)
		hold(t, "Deposit of the fund", l.Deposit(0, 4), api.OK)
		hold(t, "Deposit of one that is there, too much", l.Deposit(370, mostFunds), api.ErrOverflow)
		hold(t, "Deposit of the fund, too much", l.Deposit(0, mostFunds), api.ErrOverflow)
		want[0].Cash = 4
		holdAll(t, "full, then", l, fund+4, want)
		hold(t, "Withdraw of all", l.Withdraw(1000, 1), api.OK)
		hold(t, "Deposit of one more, when one has nothing", l.Deposit(1, 1), api.ErrFull)
	}
}

// P9.1: funds up to the bound, the fund counted, and not beyond; nobody is there by what is refused.
func TestDepositOverflow(t *testing.T) {
	l := rich(t, 100, 200)
	hold(t, "Deposit of the fund", l.Deposit(0, 300), api.OK)
	for _, account := range []uint32{0, 1, 2, 3} {
		for _, n := range []int64{mostFunds - 599, mostFunds - 1, mostFunds} {
			hold(t, "Deposit beyond", l.Deposit(account, n), api.ErrOverflow)
		}
	}
	holdAll(t, "refused", l, 300, []api.Account{cash(1, 100), cash(2, 200)})
	for _, account := range []uint32{0, 1, 3} {
		other := l.Copy()
		hold(t, "Deposit of what is left", other.Deposit(account, mostFunds-600), api.OK)
		for _, x := range []uint32{0, 1, 2, 3, 4} {
			hold(t, "Deposit behind that", other.Deposit(x, 1), api.ErrOverflow)
		}
		hold(t, "Withdraw", other.Withdraw(2, 5), api.OK)
		hold(t, "Deposit of more than that", other.Deposit(4, 6), api.ErrOverflow)
		hold(t, "Deposit of that", other.Deposit(4, 5), api.OK)
		if other.Funds() != mostFunds {
			t.Errorf("Funds %d", other.Funds())
		}
	}
}

// P9.1: who was set to so much that funds are above their bound gets nothing more, and nobody else does; nothing wraps.
func TestDepositAboveTheBound(t *testing.T) {
	l := rich(t, slices.Repeat([]int64{1}, 64)...)
	for n := range uint32(64) {
		hold(t, "Set", l.Set(cash(n+1, mostFunds)), api.OK)
	}
	hold(t, "Set of the fund", l.Set(cash(0, mostFunds)), api.OK)
	if l.Funds() != 65*mostFunds {
		t.Errorf("Funds %d", l.Funds())
	}
	for _, account := range []uint32{0, 1, 64} {
		for _, n := range []int64{1, mostFunds} {
			hold(t, "Deposit", l.Deposit(account, n), api.ErrOverflow)
		}
	}
	hold(t, "Withdraw", l.Withdraw(1, mostFunds), api.OK)
	holdGet(t, "Withdraw", l, cash(1, 0))
}

// P9.1: Withdraw, its bounds and errors in their order.
func TestWithdraw(t *testing.T) {
	for _, x := range []struct {
		account uint32
		n       int64
		e       api.Errno
		left    int64
	}{
		{1, 1, api.OK, 99}, {1, 99, api.OK, 1}, {1, 100, api.OK, 0},
		{1, 101, api.ErrCash, 100}, {1, mostFunds, api.ErrCash, 100},
		{0, 1, api.ErrArg, 100}, {0, 0, api.ErrArg, 100}, {0, mostFunds, api.ErrArg, 100},
		{2, 1, api.ErrNone, 100}, {last, 1, api.ErrNone, 100}, {2, mostFunds, api.ErrNone, 100},
	} {
		l := rich(t, 100)
		hold(t, "Deposit of the fund", l.Deposit(0, 500), api.OK)
		hold(t, "Withdraw", l.Withdraw(x.account, x.n), x.e)
		holdAll(t, "Withdraw", l, 500, []api.Account{cash(1, x.left)})
	}
	for _, n := range amounts {
		for _, account := range []uint32{0, 1, 2, last} {
			l := rich(t, 100)
			hold(t, "Withdraw", l.Withdraw(account, n), api.ErrArg)
			holdAll(t, "refused", l, 0, []api.Account{cash(1, 100)})
		}
	}
	l := rich(t, mostFunds)
	hold(t, "Withdraw of all that may be", l.Withdraw(1, mostFunds), api.OK)
	holdAll(t, "nothing left", l, 0, []api.Account{cash(1, 0)})
	hold(t, "Withdraw of nothing left", l.Withdraw(1, 1), api.ErrCash)
}

// P9.1: who is killed or in default has less, and stays what it was.
func TestWithdrawFlagged(t *testing.T) {
	l := rich(t, 100)
	for _, a := range []api.Account{flagged(1, 100, true, false), flagged(1, 100, false, true), flagged(1, 100, true, true)} {
		hold(t, "Set", l.Set(a), api.OK)
		hold(t, "Withdraw", l.Withdraw(1, 30), api.OK)
		a.Cash = 70
		holdAll(t, "Withdraw", l, 0, []api.Account{a})
	}
}

// P9.2: Get, of accounts that are there and such that are not, and of the fund.
func TestGet(t *testing.T) {
	l := rich(t, 10, 20)
	hold(t, "Set", l.Set(flagged(2, 7, true, true)), api.OK)
	hold(t, "Deposit", l.Deposit(last, 3), api.OK)
	hold(t, "Deposit of the fund", l.Deposit(0, 5), api.OK)
	for _, a := range []api.Account{cash(0, 5), cash(1, 10), flagged(2, 7, true, true), cash(last, 3)} {
		holdGet(t, "Get", l, a)
	}
	for _, account := range []uint32{3, 1 << 31, last - 1} {
		if got, e := l.Get(account); got != (api.Account{}) || e != api.ErrNone {
			t.Errorf("Get(%d): %v, error %d", account, got, e)
		}
	}
}

// P9.2: Set, its bounds and errors in their order.
func TestSet(t *testing.T) {
	for _, x := range []struct {
		a api.Account
		e api.Errno
	}{
		{cash(1, 0), api.OK}, {cash(1, 1), api.OK}, {cash(1, mostFunds), api.OK}, {flagged(1, 5, true, false), api.OK},
		{flagged(1, 5, false, true), api.OK}, {flagged(1, mostFunds, true, true), api.OK},
		{cash(1, -1), api.ErrArg}, {cash(1, mostFunds+1), api.ErrArg}, {cash(1, least), api.ErrArg}, {cash(1, greatest), api.ErrArg},
		{cash(0, 0), api.OK}, {cash(0, 7), api.OK}, {cash(0, mostFunds), api.OK},
		{cash(0, -1), api.ErrArg}, {cash(0, mostFunds+1), api.ErrArg}, {cash(0, least), api.ErrArg}, {cash(0, greatest), api.ErrArg},
		{flagged(0, 7, true, false), api.ErrArg}, {flagged(0, 7, false, true), api.ErrArg}, {flagged(0, 0, true, true), api.ErrArg},
		{cash(2, 5), api.ErrNone}, {flagged(last, 5, true, true), api.ErrNone}, {cash(2, -1), api.ErrArg}, {cash(2, mostFunds+1), api.ErrArg},
	} {
		l := from(t, 40, []api.Account{flagged(1, 100, true, false), cash(3, 5)}, pos(5, 1, 2, 7), pos(5, 3, -2, -7))
		hold(t, "Set", l.Set(x.a), x.e)
		first, fund := flagged(1, 100, true, false), int64(40)
		switch {
		case x.e != api.OK:
		case x.a.Number == 0:
			fund = x.a.Cash
		default:
			first = x.a
		}
		holdAll(t, "Set", l, fund, []api.Account{first, cash(3, 5)}, pos(5, 1, 2, 7), pos(5, 3, -2, -7))
	}
}

// P9.2: flags are set and taken away, of that account alone.
func TestSetFlags(t *testing.T) {
	l := rich(t, 10, 20)
	for _, a := range []api.Account{flagged(2, 20, true, false), flagged(2, 20, true, true), flagged(2, 0, false, true), cash(2, 20)} {
		hold(t, "Set", l.Set(a), api.OK)
		holdAll(t, "Set", l, 0, []api.Account{cash(1, 10), a})
	}
}
