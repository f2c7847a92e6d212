package venue_test

import (
	"math"
	"slices"
	"testing"

	"broadside/api"
)

// New: it trades with who stands first, what is left rests, and both sides have what they traded.
func TestNewOrder(t *testing.T) {
	d := rich(t, 4, 100_000, ship(1), ship(2))
	d.ok(sell(1, 1, 105, 10), rests(1, 10))
	d.ok(sell(2, 1, 100, 4), rests(2, 4))
	d.ok(sell(3, 1, 105, 6), rests(3, 6))
	d.ok(sell(1, 2, 95, 6), rests(4, 6))
	d.ok(buy(4, 1, 105, 16), api.Reply{Number: 5, Filled: 16, Trades: []api.Trade{trade(100, 4, 2, 2), trade(105, 10, 1, 1), trade(105, 2, 3, 3)}})
	d.orders(stood(1, 3, 3, false, 105, 4), stood(2, 4, 1, false, 95, 6))
	d.positions(pos(1, 1, -10, -1050), pos(1, 2, -4, -400), pos(1, 3, -2, -210), pos(1, 4, 16, 1660))
	d.ok(buy(4, 2, 90, 2), rests(6, 2))
	d.ok(sell(2, 2, 90, 8), api.Reply{Number: 7, Filled: 2, Left: 6, Trades: []api.Trade{trade(90, 2, 6, 4)}})
	d.orders(stood(1, 3, 3, false, 105, 4), stood(2, 7, 2, false, 90, 6), stood(2, 4, 1, false, 95, 6))
	d.positions(pos(1, 1, -10, -1050), pos(1, 2, -4, -400), pos(1, 3, -2, -210), pos(1, 4, 16, 1660), pos(2, 2, -2, -180), pos(2, 4, 2, 180))
	d.accounts(0, cash(1, 100_000), cash(2, 100_000), cash(3, 100_000), cash(4, 100_000))
}

// New: an account never trades with itself: its own orders go, and are told.
func TestNewOwn(t *testing.T) {
	d := rich(t, 3, 100_000, ship(1))
	d.all(buy(1, 1, 110, 2), buy(2, 1, 105, 4), buy(1, 1, 105, 6), buy(1, 1, 95, 8))
	d.ok(sell(1, 1, 100, 10), api.Reply{Number: 5, Filled: 4, Left: 6, Trades: []api.Trade{trade(105, 4, 2, 2)}, Gone: []uint64{1, 3}})
	d.orders(stood(1, 4, 1, true, 95, 8), stood(1, 5, 1, false, 100, 6))
	d.positions(pos(1, 1, -4, -420), pos(1, 2, 4, 420))
	d.ok(as(buy(1, 1, 100, 2), api.KindPost), api.Reply{Number: 6, Left: 2, Gone: []uint64{5}})
	d.orders(stood(1, 6, 1, true, 100, 2), stood(1, 4, 1, true, 95, 8))
}

// New: each kind is handed to the book, which tells what it refuses; a refused one takes no number.
func TestNewKinds(t *testing.T) {
	d := rich(t, 3, 100_000, ship(1))
	d.all(sell(1, 1, 100, 4), sell(2, 1, 105, 4))
	for _, k := range []api.Kind{0, 5, 255} {
		d.no(as(buy(3, 1, 100, 2), k), api.ErrArg)
	}
	d.no(as(buy(3, 1, 100, 6), api.KindAll), api.ErrAll)
	d.no(as(buy(3, 1, 100, 6), api.KindPost), api.ErrCross)
	d.ok(as(buy(3, 1, 95, 6), api.KindPost), rests(3, 6))
	d.ok(as(buy(3, 1, 100, 6), api.KindNow), api.Reply{Number: 4, Filled: 4, Trades: []api.Trade{trade(100, 4, 1, 1)}})
	d.ok(as(buy(3, 1, 105, 4), api.KindAll), api.Reply{Number: 5, Filled: 4, Trades: []api.Trade{trade(105, 4, 2, 2)}})
	d.ok(as(buy(3, 1, 105, 4), api.KindNow), api.Reply{Number: 6})
	d.orders(stood(1, 3, 3, true, 95, 6))
}

// New, Bid: the errors in their order, each ahead of those behind it.
func TestComingErrors(t *testing.T) {
	d := rich(t, 4, 100_000, ship(1), ship(2), ship(3))
	d.all(settlement(), settlement(), expire(1), halt(2, true), kill(2, true), sell(1, 3, 100, 2))
	s := d.v.State()
	s.Accounts[2].Default, s.Accounts[3].Default, s.Accounts[3].Killed = true, true, true
	d = at(t, s)
	for _, x := range []struct {
		account, contract uint32
		price, qty        int64
		e                 api.Errno
	}{
		{0, 9, 0, 0, api.ErrArg}, {0, 3, 100, 2, api.ErrArg},
		{9, 9, 0, 0, api.ErrNone}, {9, 3, 100, 2, api.ErrNone}, {1, 9, 0, 0, api.ErrNone}, {1, 0, 100, 2, api.ErrNone}, {3, 9, 100, 2, api.ErrNone},
		{3, 1, 0, 0, api.ErrDefault}, {3, 3, 100, 2, api.ErrDefault}, {4, 3, 100, 2, api.ErrDefault}, {4, 2, 100, 2, api.ErrDefault},
		{2, 1, 0, 0, api.ErrKilled}, {2, 2, 100, 2, api.ErrKilled}, {2, 3, 100, 2, api.ErrKilled},
		{1, 1, 0, 0, api.ErrExpired}, {1, 2, 0, 0, api.ErrHalted}, {1, 2, 100, 2, api.ErrHalted},
		{1, 3, 0, 0, api.ErrQty}, {1, 3, 100, 3, api.ErrQty}, {1, 3, 100, -2, api.ErrQty}, {1, 3, 101, mostQty + 2, api.ErrQty}, {1, 3, 100, math.MinInt64, api.ErrQty}, {1, 3, 100, math.MaxInt64, api.ErrQty},
		{1, 3, 0, 2, api.ErrPrice}, {1, 3, 101, 2, api.ErrPrice}, {1, 3, -100, 2000, api.ErrPrice}, {1, 3, math.MaxInt64, 2, api.ErrPrice}, {1, 3, math.MinInt64, 2, api.ErrPrice},
		{1, 3, 155, 2, api.ErrBand}, {1, 3, 45, 2000, api.ErrBand},
		{1, 3, 100, 1002, api.ErrLimit},
	} {
		for _, c := range []api.Command{buy(x.account, x.contract, x.price, x.qty), sell(x.account, x.contract, x.price, x.qty), as(buy(x.account, x.contract, x.price, x.qty), 9)} {
			d.no(c, x.e)
		}
		d.no(bid(x.account, x.contract, true, x.price, x.qty), x.e)
		d.no(bid(x.account, x.contract, false, x.price, x.qty), x.e)
	}
	d.orders(stood(3, 1, 1, false, 100, 2))
	d.ok(buy(1, 3, 150, 1000), api.Reply{Number: 2, Left: 1000, Gone: []uint64{1}})
	d.ok(bid(1, 3, false, 50, 2), rests(3, 2))
}

// New, Bid: what is open of an account counts, orders and bids alike, on the order's own side, in that contract; other accounts' does not.
func TestComingLimit(t *testing.T) {
	a := ship(1)
	a.Limit = 20
	d := rich(t, 3, 100_000, a, ship(2))
	d.all(buy(1, 1, 90, 6), bid(1, 1, true, 90, 4), sell(1, 1, 110, 8), buy(2, 1, 90, 20), bid(3, 1, true, 90, 20), buy(1, 2, 90, 100), bid(1, 2, true, 90, 100))
	d.no(buy(1, 1, 90, 12), api.ErrLimit)
	d.no(bid(1, 1, true, 90, 12), api.ErrLimit)
	d.no(sell(1, 1, 110, 14), api.ErrLimit)
	d.no(bid(1, 1, false, 110, 14), api.ErrLimit)
	d.ok(bid(1, 1, true, 90, 10), rests(8, 10))
	d.no(buy(1, 1, 90, 2), api.ErrLimit)
	d.ok(bid(1, 1, false, 110, 2), rests(9, 2))
	d.no(sell(1, 1, 110, 12), api.ErrLimit)
	d.ok(sell(1, 1, 110, 10), rests(10, 10))
	d.all(cancel(3, 5), sell(3, 1, 90, 16))
	d.positions(pos(1, 1, 6, 540), pos(1, 2, 10, 900), pos(1, 3, -16, -1440))
	d.no(buy(1, 1, 90, 2), api.ErrLimit)
	d.ok(sell(1, 1, 110, 6), rests(12, 6))
	d.no(sell(1, 1, 110, 2), api.ErrLimit)
	d.ok(buy(3, 1, 90, 20), api.Reply{Number: 13, Left: 20})
	d.no(sell(3, 1, 90, 6), api.ErrLimit)
	d.ok(sell(3, 1, 90, 4), api.Reply{Number: 14, Filled: 4, Trades: []api.Trade{trade(90, 4, 4, 2)}})
}

// New, Bid, Replace: what is not covered at worst is refused, and nothing of it is done.
func TestMargin(t *testing.T) {
	d := rich(t, 3, 1000, ship(1))
	d.no(buy(1, 1, 100, 102), api.ErrMargin)
	d.ok(buy(1, 1, 100, 100), rests(1, 100))
	d.no(sell(2, 1, 100, 252), api.ErrMargin)
	d.need(1, api.Need{W: 1000})
	d.no(buy(1, 1, 100, 2), api.ErrMargin)
	d.no(bid(1, 1, true, 100, 2), api.ErrMargin)
	d.no(replace(1, 1, 105, 100), api.ErrMargin)
	d.ok(replace(1, 1, 105, 66), rests(1, 66))
	d.need(1, api.Need{W: 990})
	d.no(replace(1, 1, 105, 68), api.ErrMargin)
	d.orders(stood(1, 1, 1, true, 105, 66))
	d.ok(sell(2, 1, 100, 66), api.Reply{Number: 2, Filled: 66, Trades: []api.Trade{trade(105, 66, 1, 1)}})
	d.need(1, api.Need{M: 660, U: 330})
	d.need(2, api.Need{M: 264})
	d.ok(bid(2, 1, false, 100, 184), rests(3, 184))
	d.need(2, api.Need{M: 264, W: 736})
	d.no(bid(2, 1, false, 100, 2), api.ErrMargin)
	d.ok(bid(2, 1, true, 90, 66), rests(4, 66))
	d.no(withdraw(2, 1), api.ErrMargin)
	d.all(cancel(2, 3), cancel(2, 4), publish(1, 110))
	d.need(1, api.Need{M: 660})
	d.need(2, api.Need{M: 264, U: 330})
	d.ok(sell(1, 1, 110, 66), rests(5, 66))
	d.no(sell(1, 1, 105, 70), api.ErrMargin)
	d.no(replace(1, 5, 105, 70), api.ErrMargin)
	d.ok(replace(1, 5, 105, 66), rests(5, 66))
	d.need(1, api.Need{M: 660, W: 330})
	d.ok(buy(2, 1, 105, 66), api.Reply{Number: 6, Filled: 66, Trades: []api.Trade{trade(105, 66, 5, 1)}})
	d.positions()
}

// New: it is what came of it that is to be borne, not what might have.
func TestMarginBehindTrades(t *testing.T) {
	d := rich(t, 2, 1000, ship(1))
	d.all(sell(2, 1, 90, 40), buy(1, 1, 50, 60))
	d.no(as(buy(1, 1, 85, 42), api.KindPost), api.ErrMargin)
	d.no(buy(1, 1, 150, 42), api.ErrMargin)
	d.orders(stood(1, 2, 1, true, 50, 60), stood(1, 1, 2, false, 90, 40))
	d.ok(buy(1, 1, 150, 40), api.Reply{Number: 3, Filled: 40, Trades: []api.Trade{trade(90, 40, 1, 2)}})
	d.need(1, api.Need{M: 400, W: 600})
	d.no(sell(1, 1, 95, 200), api.ErrMargin)
	d.ok(sell(1, 1, 50, 12), api.Reply{Number: 4, Left: 12, Gone: []uint64{2}})
	d.need(1, api.Need{M: 400, W: 600})
}

// New, Bid: the greatest number is 2^62; behind it none comes, which is told ahead of what the book, or the bids, tell.
func TestLastNumber(t *testing.T) {
	d := rich(t, 2, 1000, ship(1))
	s := d.v.State()
	s.Next = mostNumber - 1
	d = at(t, s)
	d.ok(buy(1, 1, 100, 2), rests(mostNumber-1, 2))
	d.ok(bid(1, 1, true, 100, 2), rests(mostNumber, 2))
	for range 2 {
		d.no(buy(1, 1, 100, 2), api.ErrOverflow)
		d.no(as(buy(1, 1, 100, 2), 9), api.ErrOverflow)
		d.no(as(sell(2, 1, 100, 4), api.KindAll), api.ErrOverflow)
		d.no(buy(1, 1, 100, 900), api.ErrOverflow)
		d.no(bid(2, 1, true, 100, 2), api.ErrOverflow)
		d.no(buy(1, 1, 100, 3), api.ErrQty)
	}
	if s := d.v.State(); s.Next != mostNumber+1 {
		t.Errorf("next is %d", s.Next)
	}
	d.ok(replace(1, mostNumber-1, 95, 4), rests(mostNumber-1, 4))
	d.ok(cancel(1, mostNumber), rests(mostNumber, 2))
}

// New: a hundred orders stand on a side; Bid: fifty stand in a contract.
func TestFull(t *testing.T) {
	d := rich(t, 3, mostFunds/4, wide(1), wide(2))
	s := d.v.State()
	s.Next = 1000
	for n := range uint64(100) {
		s.Orders = append(s.Orders, stood(1, n+1, 1, true, 90, 1))
	}
	for n := range uint64(100) {
		s.Orders = append(s.Orders, stood(1, n+101, 2, false, 110, 1))
	}
	for n := range uint64(50) {
		s.Bids = append(s.Bids, stood(1, n+201, 1+uint32(n%3), n%2 == 0, 100, 1))
	}
	d = at(t, s)
	d.no(buy(3, 1, 90, 1), api.ErrFull)
	d.no(sell(3, 1, 110, 1), api.ErrFull)
	d.no(bid(3, 1, true, 100, 1), api.ErrFull)
	d.no(bid(3, 1, false, 100, 1), api.ErrFull)
	d.ok(bid(3, 2, false, 100, 1), rests(1000, 1))
	d.ok(as(buy(3, 1, 90, 1), api.KindNow), api.Reply{Number: 1001})
	d.ok(sell(3, 1, 90, 1), api.Reply{Number: 1002, Filled: 1, Trades: []api.Trade{trade(90, 1, 1, 1)}})
	d.ok(buy(3, 1, 90, 1), rests(1003, 1))
	d.no(buy(3, 1, 90, 1), api.ErrFull)
	d.ok(replace(1, 2, 95, 5), rests(2, 5))
	d.ok(cancel(2, 202), rests(202, 1))
	d.ok(bid(3, 1, false, 100, 1), rests(1004, 1))
	d.no(bid(1, 1, false, 100, 1), api.ErrFull)
	if s := d.v.State(); len(s.Bids) != 51 || s.Bids[49] != stood(1, 1004, 3, false, 100, 1) {
		t.Errorf("bids %+v", s.Bids)
	}
}

// New, Replace: what the ledger refuses is refused whole: a quantity above MaxPosition, a basis above MaxBasis.
func TestTradeOverflow(t *testing.T) {
	d := at(t, api.State{Next: 1, Accounts: []api.Account{cash(1, mostFunds/4), cash(2, mostFunds/4), cash(3, 0)},
		Contracts: []api.Contract{{Spec: wide(1), State: api.Open, Price: 10}},
		Positions: []api.Position{pos(1, 1, 0, 100-mostFunds), pos(1, 2, 10, 0), pos(1, 3, -10, mostFunds-100)}})
	d.ok(buy(2, 1, 10, 20), rests(1, 20))
	d.no(sell(1, 1, 10, 11), api.ErrOverflow)
	d.no(sell(1, 1, 10, 20), api.ErrOverflow)
	d.positions(pos(1, 1, 0, 100-mostFunds), pos(1, 2, 10, 0), pos(1, 3, -10, mostFunds-100))
	d.ok(sell(1, 1, 10, 10), api.Reply{Number: 2, Filled: 10, Trades: []api.Trade{trade(10, 10, 1, 2)}})
	d.ok(sell(1, 1, 11, 5), rests(3, 5))
	d.no(replace(1, 3, 10, 5), api.ErrOverflow)
	d.orders(stood(1, 1, 2, true, 10, 10), stood(1, 3, 1, false, 11, 5))
	d = at(t, api.State{Next: 2, Accounts: []api.Account{cash(1, mostFunds/4), cash(2, 0), cash(3, 0)},
		Contracts: []api.Contract{{Spec: wide(1), State: api.Open, Price: 10}}, Orders: []api.Stood{stood(1, 1, 2, true, 10, 5)},
		Positions: []api.Position{pos(1, 2, 9_999_997, 0), pos(1, 3, -9_999_997, 0)}})
	d.no(sell(1, 1, 10, 4), api.ErrOverflow)
	d.ok(sell(1, 1, 10, 3), api.Reply{Number: 2, Filled: 3, Trades: []api.Trade{trade(10, 3, 1, 2)}})
}

// Bid: it stands behind those that came ahead, and trades with nobody.
func TestBid(t *testing.T) {
	d := rich(t, 3, 100_000, ship(1), ship(2))
	d.ok(sell(1, 2, 100, 4), rests(1, 4))
	d.ok(bid(2, 2, true, 110, 4), rests(2, 4))
	d.ok(bid(1, 2, false, 90, 2), rests(3, 2))
	d.ok(bid(3, 1, false, 150, 6), rests(4, 6))
	d.ok(bid(3, 2, true, 150, 8), rests(5, 8))
	d.ok(buy(2, 1, 150, 4), rests(6, 4))
	d.bids(stood(1, 4, 3, false, 150, 6), stood(2, 2, 2, true, 110, 4), stood(2, 3, 1, false, 90, 2), stood(2, 5, 3, true, 150, 8))
	d.orders(stood(1, 6, 2, true, 150, 4), stood(2, 1, 1, false, 100, 4))
	d.positions()
}

// Cancel: an account's own order, or bid, goes, and what was left is told.
func TestCancel(t *testing.T) {
	d := rich(t, 3, 100_000, ship(1), ship(2))
	d.all(buy(1, 1, 100, 10), bid(1, 2, true, 100, 6), sell(2, 2, 110, 4), bid(2, 2, false, 100, 8), bid(3, 2, true, 95, 2), sell(3, 1, 100, 4))
	d.no(cancel(0, 1), api.ErrArg)
	d.no(cancel(0, 99), api.ErrArg)
	for _, x := range []struct {
		account uint32
		number  uint64
	}{{1, 0}, {1, 7}, {1, 99}, {1, math.MaxUint64}, {2, 1}, {2, 2}, {1, 3}, {1, 4}, {9, 1}, {3, 6}, {last, 1}} {
		d.no(cancel(x.account, x.number), api.ErrNone)
	}
	d.ok(cancel(1, 1), rests(1, 6))
	d.no(cancel(1, 1), api.ErrNone)
	d.ok(cancel(2, 4), rests(4, 8))
	d.bids(stood(2, 2, 1, true, 100, 6), stood(2, 5, 3, true, 95, 2))
	d.orders(stood(2, 3, 2, false, 110, 4))
	d.all(halt(1, true), halt(2, true))
	d.ok(cancel(2, 3), rests(3, 4))
	d.ok(cancel(1, 2), rests(2, 6))
	d.bids(stood(2, 5, 3, true, 95, 2))
	d.orders()
	d.ok(cancel(3, 5), rests(5, 2))
	d.bids()
	d.positions(pos(1, 1, 4, 400), pos(1, 3, -4, -400))
}

// Replace: an order keeps its number; with its price and no more left its place, too.
func TestReplace(t *testing.T) {
	d := rich(t, 3, 100_000, ship(1), ship(2))
	d.all(buy(1, 1, 100, 10), buy(2, 1, 100, 4), sell(3, 1, 110, 6), bid(1, 1, true, 100, 2), sell(1, 2, 100, 4))
	d.ok(replace(1, 1, 100, 8), rests(1, 8))
	d.orders(stood(1, 1, 1, true, 100, 8), stood(1, 2, 2, true, 100, 4), stood(1, 3, 3, false, 110, 6), stood(2, 5, 1, false, 100, 4))
	d.ok(replace(1, 1, 100, 10), rests(1, 10))
	d.orders(stood(1, 2, 2, true, 100, 4), stood(1, 1, 1, true, 100, 10), stood(1, 3, 3, false, 110, 6), stood(2, 5, 1, false, 100, 4))
	d.ok(replace(2, 2, 110, 8), api.Reply{Number: 2, Filled: 6, Left: 2, Trades: []api.Trade{trade(110, 6, 3, 3)}})
	d.orders(stood(1, 2, 2, true, 110, 2), stood(1, 1, 1, true, 100, 10), stood(2, 5, 1, false, 100, 4))
	d.positions(pos(1, 2, 6, 660), pos(1, 3, -6, -660))
	d.ok(sell(1, 1, 115, 6), rests(6, 6))
	d.ok(replace(1, 6, 100, 4), api.Reply{Number: 6, Filled: 2, Left: 2, Trades: []api.Trade{trade(110, 2, 2, 2)}, Gone: []uint64{1}})
	d.orders(stood(1, 6, 1, false, 100, 2), stood(2, 5, 1, false, 100, 4))
	d.positions(pos(1, 1, -2, -220), pos(1, 2, 8, 880), pos(1, 3, -6, -660))
	d.ok(replace(1, 5, 90, 2), rests(5, 2))
	d.orders(stood(1, 6, 1, false, 100, 2), stood(2, 5, 1, false, 90, 2))
	if s := d.v.State(); s.Next != 7 {
		t.Errorf("next is %d", s.Next)
	}
}

// Replace: the errors in their order; bids and others' orders are none to be replaced.
func TestReplaceErrors(t *testing.T) {
	d := rich(t, 3, 100_000, ship(1), ship(2))
	d.all(buy(1, 1, 100, 10), bid(1, 1, true, 100, 2), sell(2, 1, 105, 4), buy(1, 2, 100, 4))
	d.no(replace(0, 1, 100, 2), api.ErrArg)
	d.no(replace(0, 99, 0, 0), api.ErrArg)
	for _, x := range []struct {
		account uint32
		number  uint64
	}{{1, 0}, {1, 2}, {1, 3}, {2, 1}, {9, 1}, {1, 5}, {1, math.MaxUint64}} {
		d.no(replace(x.account, x.number, 100, 2), api.ErrNone)
		d.no(replace(x.account, x.number, 0, 0), api.ErrNone)
	}
	d.no(replace(1, 1, 0, 0), api.ErrQty)
	d.no(replace(1, 1, 101, 3), api.ErrQty)
	d.no(replace(1, 1, 100, -2), api.ErrQty)
	d.no(replace(1, 1, 101, 2000), api.ErrPrice)
	d.no(replace(1, 1, 155, 2000), api.ErrBand)
	d.no(replace(1, 1, 100, 1000), api.ErrLimit)
	d.all(publish(1, 155))
	d.no(replace(1, 1, 100, 2), api.ErrBand)
	d.all(publish(1, 100), halt(1, true))
	d.no(replace(1, 1, 0, 0), api.ErrHalted)
	d.ok(replace(1, 4, 100, 2), rests(4, 2))
	d.ok(halt(1, false), api.Reply{})
	d.ok(kill(1, true), api.Reply{Gone: []uint64{1, 2, 4}})
	d.no(replace(1, 1, 100, 2), api.ErrNone)
}

// Replace: at the gate the order itself is not open already; what else is open is.
func TestReplaceLimit(t *testing.T) {
	a := ship(1)
	a.Limit = 20
	d := rich(t, 3, 100_000, a)
	d.all(buy(1, 1, 90, 6), buy(1, 1, 95, 4), bid(1, 1, true, 90, 2), sell(2, 1, 110, 10))
	d.no(replace(1, 1, 90, 16), api.ErrLimit)
	d.ok(replace(1, 1, 90, 14), rests(1, 14))
	d.no(replace(1, 2, 95, 6), api.ErrLimit)
	d.ok(replace(1, 1, 95, 12), rests(1, 12))
	d.ok(replace(1, 2, 95, 6), rests(2, 6))
	d.no(replace(2, 4, 110, 22), api.ErrLimit)
	d.ok(replace(2, 4, 110, 20), rests(4, 20))
	d.ok(buy(3, 1, 110, 6), api.Reply{Number: 5, Filled: 6, Trades: []api.Trade{trade(110, 6, 4, 2)}})
	d.no(replace(2, 4, 110, 16), api.ErrLimit)
	d.ok(replace(2, 4, 115, 14), rests(4, 14))
	d.orders(stood(1, 1, 1, true, 95, 12), stood(1, 2, 1, true, 95, 6), stood(1, 4, 2, false, 115, 14))
}

// Mass: all of an account's orders and bids go, in one contract or in all, by contracts, as they stand, bids behind.
func TestMass(t *testing.T) {
	setting := func() *desk {
		d := rich(t, 4, 100_000, ship(2), ship(1), ship(3))
		return d.all(sell(1, 2, 110, 2), bid(1, 1, false, 100, 2), buy(1, 2, 90, 2), bid(2, 2, true, 100, 2), buy(1, 2, 95, 2), bid(1, 2, true, 95, 2),
			sell(2, 1, 100, 2), sell(1, 1, 105, 2), sell(1, 1, 100, 2), bid(1, 1, true, 100, 2), buy(1, 1, 95, 2), bid(1, 2, false, 115, 2))
	}
	d := setting()
	for _, c := range []uint32{0, 1, 9} {
		d.no(mass(0, c), api.ErrArg)
		d.no(mass(9, c), api.ErrNone)
	}
	d.no(mass(1, 9), api.ErrNone)
	d.ok(mass(1, 3), api.Reply{})
	d.ok(mass(4, 0), api.Reply{})
	d.ok(mass(1, 2), api.Reply{Gone: []uint64{5, 3, 1, 6, 12}})
	d.orders(stood(1, 11, 1, true, 95, 2), stood(1, 7, 2, false, 100, 2), stood(1, 9, 1, false, 100, 2), stood(1, 8, 1, false, 105, 2))
	d.bids(stood(1, 2, 1, false, 100, 2), stood(1, 10, 1, true, 100, 2), stood(2, 4, 2, true, 100, 2))
	d.ok(mass(1, 0), api.Reply{Gone: []uint64{11, 9, 8, 2, 10}})
	d.ok(mass(1, 0), api.Reply{})
	d.orders(stood(1, 7, 2, false, 100, 2))
	d.bids(stood(2, 4, 2, true, 100, 2))
	d = setting()
	d.all(halt(1, true))
	d.ok(mass(1, 0), api.Reply{Gone: []uint64{11, 9, 8, 2, 10, 5, 3, 1, 6, 12}})
	d.ok(mass(2, 0), api.Reply{Gone: []uint64{7, 4}})
	d.all(settlement(), settlement(), expire(1), buy(1, 2, 100, 2))
	d.ok(mass(1, 1), api.Reply{})
	d.ok(mass(1, 0), api.Reply{Gone: []uint64{13}})
}

// Kill: with its mark none of the account's orders and bids stand; without it they may come again.
func TestKill(t *testing.T) {
	d := rich(t, 3, 100_000, ship(1), ship(2))
	d.all(bid(1, 1, true, 100, 2), buy(1, 2, 90, 2), sell(1, 1, 110, 2), buy(1, 1, 100, 2), buy(2, 1, 100, 2), bid(2, 1, true, 100, 2), sell(2, 1, 105, 2), buy(1, 1, 105, 2))
	for _, on := range []bool{true, false} {
		d.no(kill(0, on), api.ErrArg)
		d.no(kill(9, on), api.ErrNone)
	}
	d.ok(kill(1, false), api.Reply{})
	d.accounts(0, cash(1, 100_000), cash(2, 100_000), cash(3, 100_000))
	d.ok(kill(1, true), api.Reply{Gone: []uint64{4, 3, 1, 2}})
	d.accounts(0, api.Account{Number: 1, Cash: 100_000, Killed: true}, cash(2, 100_000), cash(3, 100_000))
	d.orders(stood(1, 5, 2, true, 100, 2))
	d.bids(stood(1, 6, 2, true, 100, 2))
	d.positions(pos(1, 1, 2, 210), pos(1, 2, -2, -210))
	d.ok(kill(1, true), api.Reply{})
	d.no(buy(1, 1, 100, 2), api.ErrKilled)
	d.no(bid(1, 1, true, 100, 2), api.ErrKilled)
	d.no(cancel(1, 1), api.ErrNone)
	d.ok(deposit(1, 1), api.Reply{})
	d.ok(kill(1, false), api.Reply{})
	d.ok(buy(1, 1, 100, 2), rests(9, 2))
	d.ok(kill(3, true), api.Reply{})
	d.accounts(0, cash(1, 100_001), cash(2, 100_000), api.Account{Number: 3, Cash: 100_000, Killed: true})
}

// an account in default may be marked as killed, and stays in default.
func TestKillInDefault(t *testing.T) {
	inDefault := api.Account{Number: 1, Default: true}
	d := at(t, api.State{Next: 1, Accounts: []api.Account{inDefault}})
	d.ok(kill(1, true), api.Reply{})
	d.accounts(0, api.Account{Number: 1, Default: true, Killed: true})
	d.no(mass(2, 0), api.ErrNone)
	d.ok(mass(1, 0), api.Reply{})
	d.no(cancel(1, 1), api.ErrNone)
	d.ok(kill(1, false), api.Reply{})
	d.accounts(0, inDefault)
}

// T10: nobody who stood ahead is passed over: of those who trade each stands ahead of those who don't.
func TestNobodyIsPassedOver(t *testing.T) {
	d := rich(t, 5, 1_000_000, ship(1))
	for _, x := range []struct{ account, price, n int64 }{{1, 100, 4}, {2, 95, 2}, {3, 100, 6}, {1, 95, 8}, {4, 95, 4}, {2, 105, 2}} {
		d.do(sell(uint32(x.account), 1, x.price, x.n))
	}
	stand := d.v.State().Orders
	var all []api.Trade
	for range 13 {
		r := d.do(buy(5, 1, 150, 2))
		all = slices.Concat(all, r.Trades)
	}
	for i, o := range stand {
		for range o.Order.Left / 2 {
			if len(all) == 0 || all[0] != trade(o.Order.Price, 2, o.Order.Number, o.Order.Account) {
				t.Fatalf("who stood at the place %d is passed over: %+v", i, all)
			}
			all = all[1:]
		}
	}
}
