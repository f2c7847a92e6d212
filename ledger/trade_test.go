package ledger_test

import (
	"testing"

	"broadside/api"
	"broadside/ledger"
)

// P9.3: each bound, and the errors in their order.
func TestTradeErrors(t *testing.T) {
	for _, x := range []struct {
		contract, buyer, seller uint32
		price, qty              int64
		e                       api.Errno
	}{
		{0, 1, 2, 10, 3, api.ErrArg}, {5, 0, 2, 10, 3, api.ErrArg}, {5, 1, 0, 10, 3, api.ErrArg}, {5, 0, 0, 10, 3, api.ErrArg},
		{5, 1, 1, 10, 3, api.ErrArg}, {5, 9, 9, 10, 3, api.ErrArg}, {0, 9, 8, 10, 3, api.ErrArg}, {5, 0, 9, 10, 3, api.ErrArg}, {5, 9, 0, 10, 3, api.ErrArg},
		{5, 1, 2, 0, 3, api.ErrArg}, {5, 1, 2, -1, 3, api.ErrArg}, {5, 1, 2, mostPrice + 1, 3, api.ErrArg}, {5, 1, 2, least, 3, api.ErrArg}, {5, 1, 2, greatest, 3, api.ErrArg},
		{5, 1, 2, 10, 0, api.ErrArg}, {5, 1, 2, 10, -1, api.ErrArg}, {5, 1, 2, 10, mostQ + 1, api.ErrArg}, {5, 1, 2, 10, least, api.ErrArg}, {5, 1, 2, 10, greatest, api.ErrArg},
		{5, 1, 9, 0, 3, api.ErrArg}, {5, 9, 1, 10, 0, api.ErrArg}, {5, 9, 8, 10, mostQ + 1, api.ErrArg}, {5, 9, 1, mostPrice + 1, 1, api.ErrArg},
		{5, 1, 9, 10, 3, api.ErrNone}, {5, 9, 1, 10, 3, api.ErrNone}, {5, 9, 8, 10, 3, api.ErrNone}, {5, last, 1, 10, 3, api.ErrNone},
		{5, 1, 9, 10, mostQ, api.ErrNone}, {5, 9, 2, mostPrice, mostQ, api.ErrNone},
		{5, 1, 2, 10, mostQ, api.ErrOverflow}, {5, 1, 3, 10, mostQ, api.ErrOverflow}, {5, 3, 2, 10, mostQ, api.ErrOverflow},
	} {
		accounts := []api.Account{cash(1, 10), cash(2, 10), cash(3, 10)}
		l := from(t, 7, accounts, pos(5, 1, 3, 30), pos(5, 2, -3, -30))
		hold(t, "Trade", l.Trade(x.contract, x.buyer, x.seller, x.price, x.qty), x.e)
		holdAll(t, "refused", l, 7, accounts, pos(5, 1, 3, 30), pos(5, 2, -3, -30))
	}
}

// P9.3: the least and the greatest of each number; cash stays as it is, whatever is traded, by whomever.
func TestTradeBounds(t *testing.T) {
	for _, x := range []struct{ price, qty int64 }{{1, 1}, {10, 3}, {mostPrice, 1}, {1, mostQ}, {mostPrice, mostQ}} {
		for _, contract := range []uint32{1, 5, last} {
			accounts := []api.Account{cash(1, 0), flagged(2, 5, true, true), cash(last, 0)}
			l := from(t, 7, accounts)
			cost := x.price * x.qty
			hold(t, "Trade", l.Trade(contract, last, 1, x.price, x.qty), api.OK)
			holdAll(t, "Trade", l, 7, accounts, pos(contract, 1, -x.qty, -cost), pos(contract, last, x.qty, cost))
			hold(t, "Trade back", l.Trade(contract, 1, last, x.price, x.qty), api.OK)
			holdAll(t, "Trade back", l, 7, accounts)
			hold(t, "Trade of one killed and in default", l.Trade(contract, 2, last, x.price, x.qty), api.OK)
			holdAll(t, "Trade of one killed and in default", l, 7, accounts, pos(contract, 2, x.qty, cost), pos(contract, last, -x.qty, -cost))
		}
	}
}

// P9.3: trades add up; contracts and accounts stand each for themselves.
func TestTradesAddUp(t *testing.T) {
	l := rich(t, 1, 1, 1)
	accounts := []api.Account{cash(1, 1), cash(2, 1), cash(3, 1)}
	hold(t, "Trade", l.Trade(6, 2, 3, 7, 4), api.OK)
	hold(t, "Trade", l.Trade(5, 1, 2, 10, 3), api.OK)
	hold(t, "Trade", l.Trade(5, 1, 2, 12, 2), api.OK)
	hold(t, "Trade", l.Trade(5, 3, 1, 20, 9), api.OK)
	holdAll(t, "trades", l, 0, accounts, pos(5, 1, -4, -126), pos(5, 2, -5, -54), pos(5, 3, 9, 180), pos(6, 2, 4, 28), pos(6, 3, -4, -28))
	hold(t, "Trade", l.Trade(6, 3, 2, 7, 4), api.OK)
	holdAll(t, "one contract left", l, 0, accounts, pos(5, 1, -4, -126), pos(5, 2, -5, -54), pos(5, 3, 9, 180))
}

// Words: who has no quantity, but a basis, holds the contract; so does who has a quantity, but no basis.
func TestHolds(t *testing.T) {
	l := traded(t)
	two := []api.Account{cash(1, 100), cash(2, 100)}
	hold(t, "Trade back at another price", l.Trade(5, 2, 1, 11, 3), api.OK)
	holdAll(t, "a basis", l, 0, two, pos(5, 1, 0, -3), pos(5, 2, 0, 3))
	hold(t, "Trade", l.Trade(5, 1, 2, 3, 1), api.OK)
	holdAll(t, "a quantity", l, 0, two, pos(5, 1, 1, 0), pos(5, 2, -1, 0))
	hold(t, "Trade", l.Trade(5, 2, 1, 1, 1), api.OK)
	holdMark(t, "Mark", l, 5, 500, false, won(1, 1), won(2, -1))
	holdAll(t, "nothing", l, 0, two)
}

// beyond are ledgers of three accounts in which 1 has so much in the contract 5, and 3 the other side of it; 2 has nothing.
func beyond(t *testing.T, q, basis int64) *ledger.Ledger {
	t.Helper()
	return from(t, 0, three(), pos(5, 1, q, basis), pos(5, 3, -q, -basis))
}

func three() []api.Account { return []api.Account{cash(1, 5), cash(2, 5), cash(3, 5)} }

// P9.3: a quantity up to its bound, either way, and not beyond it, whoever's it is; nothing changes for the other one.
func TestTradeQuantityOverflow(t *testing.T) {
	for _, x := range []struct {
		q, n int64
		e    api.Errno
	}{
		{mostQ - 5, 5, api.OK}, {mostQ - 5, 6, api.ErrOverflow}, {mostQ, 1, api.ErrOverflow}, {mostQ, mostQ, api.ErrOverflow},
		{1, mostQ - 1, api.OK}, {1, mostQ, api.ErrOverflow}, {-1, mostQ, api.OK}, {-mostQ, mostQ, api.OK},
	} {
		for _, buys := range []bool{true, false} {
			q, buyer, seller := x.q, uint32(1), uint32(2)
			if !buys {
				q, buyer, seller = -x.q, 2, 1
			}
			l := beyond(t, q, 1)
			hold(t, "Trade", l.Trade(5, buyer, seller, 1, x.n), x.e)
			way := map[bool]int64{true: 1, false: -1}[buys]
			switch x.e {
			case api.OK:
				holdAll(t, "Trade", l, 0, three(), pos(5, 1, q+way*x.n, 1+way*x.n), pos(5, 2, -way*x.n, -way*x.n), pos(5, 3, -q, -1))
			default:
				holdAll(t, "refused", l, 0, three(), pos(5, 1, q, 1), pos(5, 3, -q, -1))
			}
		}
	}
}

// P9.3: a basis likewise.
func TestTradeBasisOverflow(t *testing.T) {
	for _, x := range []struct {
		basis, price, n int64
		e               api.Errno
	}{
		{mostBasis - 15, 3, 5, api.OK}, {mostBasis - 15, 4, 4, api.ErrOverflow}, {mostBasis, 1, 1, api.ErrOverflow}, {mostBasis, mostPrice, mostQ, api.ErrOverflow},
		{mostBasis - 100_000_000_000_000, mostPrice, mostQ, api.OK}, {mostBasis - 99_999_999_999_999, mostPrice, mostQ, api.ErrOverflow},
		{-mostBasis, mostPrice, mostQ, api.OK}, {-mostBasis, 1, 1, api.OK},
	} {
		for _, buys := range []bool{true, false} {
			basis, buyer, seller, way := x.basis, uint32(1), uint32(2), int64(1)
			if !buys {
				basis, buyer, seller, way = -x.basis, 2, 1, -1
			}
			l := beyond(t, 0, basis)
			hold(t, "Trade", l.Trade(5, buyer, seller, x.price, x.n), x.e)
			switch cost := way * x.price * x.n; x.e {
			case api.OK:
				holdAll(t, "Trade", l, 0, three(), pos(5, 1, way*x.n, basis+cost), pos(5, 2, -way*x.n, -cost), pos(5, 3, 0, -basis))
			default:
				holdAll(t, "refused", l, 0, three(), pos(5, 1, 0, basis), pos(5, 3, 0, -basis))
			}
		}
	}
}

// P9.4: each bound, and that nothing changes when it is refused.
func TestMarkErrors(t *testing.T) {
	two := []api.Account{cash(1, 100), cash(2, 100)}
	for _, x := range []struct {
		contract uint32
		price    int64
	}{{0, 10}, {5, 0}, {5, -1}, {5, mostPrice + 1}, {5, least}, {5, greatest}, {0, 0}, {6, 0}, {6, mostPrice + 1}} {
		for _, closed := range []bool{false, true} {
			l := traded(t)
			if got, e := l.Mark(x.contract, x.price, closed); len(got) != 0 || e != api.ErrArg {
				t.Errorf("Mark(%d, %d): %v, error %d", x.contract, x.price, got, e)
			}
			holdAll(t, "refused", l, 0, two, pos(5, 1, 3, 30), pos(5, 2, -3, -30))
		}
	}
}

// P9.4: contracts that nobody holds are marked too.
func TestMarkOfNobody(t *testing.T) {
	two := []api.Account{cash(1, 100), cash(2, 100)}
	for _, closed := range []bool{false, true} {
		l := traded(t)
		for _, contract := range []uint32{1, 4, 6, last} {
			for _, price := range []int64{1, 10, mostPrice} {
				holdMark(t, "nobody", l, contract, price, closed)
			}
		}
		holdAll(t, "nobody", l, 0, two, pos(5, 1, 3, 30), pos(5, 2, -3, -30))
		holdMark(t, "a new ledger", ledger.New(), 5, 10, closed)
	}
}

// P9.4: at the bounds of quantities, bases and prices variations are told whole; closed or not, of that contract alone.
func TestMarkBounds(t *testing.T) {
	for _, x := range []struct{ q, basis, price int64 }{
		{3, 30, 10}, {3, 30, 1}, {3, 30, mostPrice}, {mostQ, mostBasis, 1}, {mostQ, -mostBasis, mostPrice}, {-mostQ, mostBasis, mostPrice}, {-mostQ, -mostBasis, 1},
		{1, 0, 5}, {0, 1, 5}, {0, mostBasis, mostPrice}, {0, -mostBasis, 1},
	} {
		for _, closed := range []bool{false, true} {
			other := []api.Position{pos(6, 1, 4, 9), pos(6, 2, -4, -9)}
			l := from(t, 1, three(), append([]api.Position{pos(5, 1, x.q, x.basis), pos(5, 3, -x.q, -x.basis)}, other...)...)
			worth := x.q * x.price
			holdMark(t, "Mark", l, 5, x.price, closed, won(1, worth-x.basis), won(3, x.basis-worth))
			if closed || x.q == 0 {
				holdAll(t, "nothing left", l, 1, three(), other...)
				holdMark(t, "Mark again", l, 5, x.price, closed)
				continue
			}
			holdAll(t, "marked", l, 1, three(), append([]api.Position{pos(5, 1, x.q, worth), pos(5, 3, -x.q, -worth)}, other...)...)
			holdMark(t, "Mark again", l, 5, x.price, closed, won(1, 0), won(3, 0))
		}
	}
}

// P9.4: variations by rising accounts, whatever the order in which they traded; sixty-four holders; and with accounts between that hold nothing.
func TestMarkOrder(t *testing.T) {
	l := ledger.New()
	for n := range uint32(64) {
		hold(t, "Deposit", l.Deposit(6400-100*n, 1), api.OK)
	}
	var want []api.Variation
	for n := range uint32(32) {
		hold(t, "Trade", l.Trade(5, 6400-200*n, 6300-200*n, 10, int64(n+1)), api.OK)
		back := int64(32 - n)
		want = append(want, won(200*n+100, -2*back), won(200*n+200, 2*back))
	}
	holdMark(t, "sixty-four", l, 5, 12, false, want...)
	few := rich(t, 1, 1, 1, 1, 1)
	hold(t, "Trade", few.Trade(5, 5, 2, 10, 1), api.OK)
	holdMark(t, "two of five", few, 5, 7, true, won(2, 3), won(5, -3))
}

// P9.4: cash stays as it is, whatever is won or lost, and so do flags.
func TestMarkLeavesCash(t *testing.T) {
	accounts := []api.Account{flagged(1, 0, true, false), flagged(2, mostFunds, false, true)}
	l := from(t, 0, accounts, pos(5, 1, 1, 100), pos(5, 2, -1, -100))
	holdMark(t, "Mark", l, 5, 1, false, won(1, -99), won(2, 99))
	holdAll(t, "Mark", l, 0, accounts, pos(5, 1, 1, 1), pos(5, 2, -1, -1))
	holdMark(t, "Mark and close", l, 5, mostPrice, true, won(1, mostPrice-1), won(2, 1-mostPrice))
	holdAll(t, "Mark and close", l, 0, accounts)
	hold(t, "Trade behind that", l.Trade(5, 2, 1, 10, 1), api.OK)
	holdAll(t, "Trade behind that", l, 0, accounts, pos(5, 1, -1, -10), pos(5, 2, 1, 10))
}

// R2: variations may be written over.
func TestMarkAnswersAreNew(t *testing.T) {
	l := traded(t)
	got, _ := l.Mark(5, 12, false)
	clear(got)
	holdMark(t, "then", l, 5, 13, false, won(1, 3), won(2, -3))
}
