package venue_test

import (
	"slices"
	"testing"

	"broadside/api"
)

// day is a desk of three accounts and two contracts, on the day 0, with that cash of the accounts 1, 2, 3, and a fund.
func day(t *testing.T, fund int64, each ...int64) *desk {
	t.Helper()
	s := api.State{Next: 1, Fund: fund, Contracts: []api.Contract{{Spec: ship(1), State: api.Open, Price: 100}, {Spec: ship(2), State: api.Open, Price: 100}}}
	for i, n := range each {
		s.Accounts = append(s.Accounts, cash(uint32(i+1), n))
	}
	return at(t, s)
}

// Settle: all contracts are marked, halted ones too, what was won is paid, and it is a day later.
func TestSettle(t *testing.T) {
	d := day(t, 7, 1000, 2000, 3000)
	d.all(buy(1, 1, 100, 10), sell(2, 1, 100, 10), buy(3, 2, 100, 4), sell(1, 2, 100, 4), buy(3, 1, 95, 2), halt(2, true))
	d.all(publish(1, 105), publish(2, 140))
	d.ok(settlement(), api.Reply{})
	d.accounts(7, cash(1, 1000+50-160), cash(2, 2000-50), cash(3, 3000+160))
	d.positions(pos(1, 1, 10, 1050), pos(1, 2, -10, -1050), pos(2, 1, -4, -560), pos(2, 3, 4, 560))
	d.orders(stood(1, 5, 3, true, 95, 2))
	d.ok(settlement(), api.Reply{})
	d.accounts(7, cash(1, 890), cash(2, 1950), cash(3, 3160))
	d.ok(publish(1, 100), api.Reply{})
	d.ok(settlement(), api.Reply{})
	d.accounts(7, cash(1, 840), cash(2, 2000), cash(3, 3160))
	if s := d.v.State(); s.Day != 3 {
		t.Errorf("the day is %d", s.Day)
	}
}

// Settle: the price of the day counts, whatever was traded at; what was traded and closed again is paid, too.
func TestSettleTraded(t *testing.T) {
	d := day(t, 0, 1000, 1000)
	d.all(buy(1, 1, 110, 4), sell(2, 1, 110, 4), buy(2, 1, 90, 4), sell(1, 1, 90, 4))
	d.positions(pos(1, 1, 0, 80), pos(1, 2, 0, -80))
	d.need(1, api.Need{U: 80})
	d.need(2, api.Need{})
	d.ok(settlement(), api.Reply{})
	d.accounts(0, cash(1, 920), cash(2, 1080))
	d.positions()
}

// Settle: the last day is the last one.
func TestSettleLastDay(t *testing.T) {
	d := at(t, api.State{Day: last - 1, Next: 1, Accounts: []api.Account{{Number: 1, Default: true}}})
	d.ok(settlement(), api.Reply{})
	d.accounts(0, cash(1, 0))
	d.no(settlement(), api.ErrOverflow)
	d.ok(deposit(1, 5), api.Reply{})
	d.state(api.State{Day: last, Next: 1, Accounts: []api.Account{cash(1, 5)}})
}

// Settle: who can't pay is in default, the fund pays, and what it lacks is cut from what others have won.
func TestSettleDefault(t *testing.T) {
	for _, x := range []struct{ fund, left, second, third int64 }{{0, 0, 1160, 1040}, {30, 0, 1184, 1046}, {100, 0, 1240, 1060}, {150, 50, 1240, 1060}} {
		d := day(t, x.fund, 200, 1000, 1000)
		d.all(buy(1, 1, 100, 20), sell(2, 1, 100, 16), sell(3, 1, 100, 4), publish(1, 85))
		d.ok(settlement(), api.Reply{Accounts: []uint32{1}})
		d.accounts(x.left, api.Account{Number: 1, Default: true}, cash(2, x.second), cash(3, x.third))
		d.positions(pos(1, 1, 20, 1700), pos(1, 2, -16, -1360), pos(1, 3, -4, -340))
	}
	d := day(t, 0, 200, 1000)
	d.all(buy(1, 1, 100, 20), sell(2, 1, 100, 20), publish(1, 90))
	d.ok(settlement(), api.Reply{})
	d.accounts(0, cash(1, 0), cash(2, 1200))
	d.ok(publish(1, 85), api.Reply{})
	d.ok(settlement(), api.Reply{Accounts: []uint32{1}})
	d.accounts(0, api.Account{Number: 1, Default: true}, cash(2, 1200))
}

// Settle: what an account has won in one contract pays for what it has lost in another one.
func TestSettleAddedUp(t *testing.T) {
	d := day(t, 0, 500, 1000, 1000)
	d.all(buy(1, 1, 100, 20), sell(2, 1, 100, 20), sell(1, 2, 100, 20), buy(3, 2, 100, 20), publish(1, 50), publish(2, 70))
	d.ok(settlement(), api.Reply{})
	d.accounts(0, cash(1, 500-1000+600), cash(2, 2000), cash(3, 400))
}

// Settle: of who is in default all orders and bids go: by accounts, then contracts, as they stand, bids behind; others' stay.
func TestSettleGone(t *testing.T) {
	d := day(t, 0, 1000, 1000, 5000, 9000)
	d.all(buy(2, 1, 100, 20), buy(1, 1, 100, 20), sell(4, 1, 100, 40))
	d.all(bid(1, 2, true, 90, 2), buy(2, 2, 95, 2), buy(1, 2, 90, 4), bid(2, 1, false, 110, 2), sell(1, 2, 110, 2), buy(1, 2, 95, 2),
		buy(3, 2, 90, 2), bid(3, 2, true, 90, 2), sell(1, 1, 110, 2), bid(1, 1, false, 110, 2), buy(1, 1, 90, 2), buy(4, 1, 90, 2))
	d.all(publish(1, 45))
	d.ok(settlement(), api.Reply{Accounts: []uint32{1, 2}, Gone: []uint64{14, 12, 13, 9, 6, 8, 4, 7, 5}})
	d.orders(stood(1, 15, 4, true, 90, 2), stood(2, 10, 3, true, 90, 2))
	d.bids(stood(2, 11, 3, true, 90, 2))
	d.accounts(0, api.Account{Number: 1, Default: true}, api.Account{Number: 2, Default: true}, cash(3, 5000), cash(4, 11000))
	d.no(buy(1, 1, 45, 2), api.ErrDefault)
	d.no(bid(2, 1, true, 45, 2), api.ErrDefault)
	d.no(withdraw(3, 5001), api.ErrCash)
}

// Settle: the mark stays as long as an account holds something, or is in default again; then it goes, killed or not.
func TestSettleRedeem(t *testing.T) {
	d := day(t, 0, 200, 1000, 1000)
	d.all(kill(1, false), buy(1, 1, 100, 20), sell(2, 1, 100, 20), kill(1, true), publish(1, 85))
	d.ok(settlement(), api.Reply{Accounts: []uint32{1}})
	broke := api.Account{Number: 1, Killed: true, Default: true}
	d.accounts(0, broke, cash(2, 1200), cash(3, 1000))
	d.ok(settlement(), api.Reply{})
	d.accounts(0, broke, cash(2, 1200), cash(3, 1000))
	d.all(deposit(1, 30), publish(1, 80))
	d.ok(settlement(), api.Reply{Accounts: []uint32{1}})
	d.accounts(0, broke, cash(2, 1230), cash(3, 1000))
	d.all(deposit(1, 300), publish(1, 75))
	d.ok(settlement(), api.Reply{})
	d.accounts(0, api.Account{Number: 1, Cash: 200, Killed: true, Default: true}, cash(2, 1330), cash(3, 1000))
	d.ok(publish(1, 70), api.Reply{})
	d.ok(bid(3, 1, true, 55, 20), rests(3, 20))
	d.ok(liquidate(1), api.Reply{Filled: 20, Trades: []api.Trade{trade(55, 20, 3, 3)}})
	d.positions(pos(1, 1, 0, 400), pos(1, 2, -20, -1500), pos(1, 3, 20, 1100))
	d.ok(settlement(), api.Reply{Accounts: []uint32{1}})
	d.accounts(0, broke, cash(2, 1380), cash(3, 1150))
	d.positions(pos(1, 2, -20, -1400), pos(1, 3, 20, 1400))
	d.ok(settlement(), api.Reply{})
	d.accounts(0, api.Account{Number: 1, Killed: true}, cash(2, 1380), cash(3, 1150))
	d.no(buy(1, 1, 70, 2), api.ErrKilled)
	d.all(kill(1, false), deposit(1, 50), buy(1, 1, 70, 2))
}

// Settle: a basis alone is something that is held, till it is marked.
func TestSettleRedeemMarked(t *testing.T) {
	d := at(t, api.State{Next: 1, Accounts: []api.Account{{Number: 1, Cash: 50, Default: true}, cash(2, 50), {Number: 3, Default: true}},
		Contracts: []api.Contract{{Spec: ship(1), State: api.Open, Price: 100}}, Positions: []api.Position{pos(1, 1, 0, 50), pos(1, 2, 0, -50)}})
	d.ok(settlement(), api.Reply{})
	d.accounts(0, cash(1, 0), cash(2, 100), cash(3, 0))
	d.positions()
}

// Expire: the calendar's errors; else the contract is marked, closed and paid for, and what stands in it goes.
func TestExpire(t *testing.T) {
	d := day(t, 3, 1000, 2000, 3000)
	d.all(buy(1, 1, 100, 10), sell(2, 1, 100, 10), buy(3, 2, 100, 4), sell(1, 2, 100, 4))
	d.all(sell(3, 1, 115, 2), bid(2, 1, true, 90, 2), buy(1, 1, 90, 2), buy(2, 1, 95, 2), bid(1, 1, false, 100, 4), buy(1, 2, 95, 2), bid(2, 2, true, 95, 2))
	d.no(expire(3), api.ErrNone)
	d.no(expire(0), api.ErrNone)
	d.no(expire(1), api.ErrDay)
	d.ok(settlement(), api.Reply{})
	d.no(expire(1), api.ErrDay)
	d.ok(settlement(), api.Reply{})
	d.no(expire(2), api.ErrDay)
	d.all(publish(1, 120), publish(2, 110))
	d.ok(expire(1), api.Reply{Gone: []uint64{8, 7, 5, 6, 9}})
	d.accounts(3, cash(1, 1200), cash(2, 1800), cash(3, 3000))
	d.positions(pos(2, 1, -4, -400), pos(2, 3, 4, 400))
	d.orders(stood(2, 10, 1, true, 95, 2))
	d.bids(stood(2, 11, 2, true, 95, 2))
	d.prices(map[uint32]int64{1: 120, 2: 110}, map[uint32]api.ContractState{1: api.Expired, 2: api.Open})
	d.no(expire(1), api.ErrExpired)
	d.no(cancel(1, 7), api.ErrNone)
	d.no(replace(1, 7, 95, 2), api.ErrNone)
	d.no(cancel(1, 9), api.ErrNone)
	d.no(buy(1, 1, 120, 2), api.ErrExpired)
	d.ok(mass(1, 1), api.Reply{})
	d.ok(settlement(), api.Reply{})
	d.accounts(3, cash(1, 1160), cash(2, 1800), cash(3, 3040))
	d.ok(halt(2, true), api.Reply{})
	d.ok(expire(2), api.Reply{Gone: []uint64{10, 11}})
	d.accounts(3, cash(1, 1160), cash(2, 1800), cash(3, 3040))
	d.positions()
	d.orders()
	d.bids()
}

// Expire: of who is in default by it everything goes, in all contracts, ahead of what others have in the contract; nobody's mark goes.
func TestExpireDefault(t *testing.T) {
	d := day(t, 20, 300, 1000, 1000, 1000)
	d.all(buy(1, 1, 100, 20), sell(2, 1, 100, 16), sell(3, 1, 100, 4))
	d.all(bid(1, 2, true, 90, 2), sell(2, 1, 110, 2), bid(3, 1, true, 60, 2), buy(1, 1, 90, 2), bid(1, 1, false, 110, 2), buy(1, 2, 90, 2), buy(3, 1, 70, 2), buy(2, 2, 90, 2), bid(2, 2, true, 90, 2))
	d.all(settlement(), settlement(), publish(1, 80))
	d.ok(expire(1), api.Reply{Accounts: []uint32{1}, Gone: []uint64{7, 8, 9, 4, 10, 5, 6}})
	d.accounts(0, api.Account{Number: 1, Default: true}, cash(2, 1256), cash(3, 1064), cash(4, 1000))
	d.positions()
	d.orders(stood(2, 11, 2, true, 90, 2))
	d.bids(stood(2, 12, 2, true, 90, 2))
	d.no(buy(1, 2, 90, 2), api.ErrDefault)
	d.ok(expire(2), api.Reply{Gone: []uint64{11, 12}})
	d.accounts(0, api.Account{Number: 1, Default: true}, cash(2, 1256), cash(3, 1064), cash(4, 1000))
	d.ok(settlement(), api.Reply{})
	d.accounts(0, cash(1, 0), cash(2, 1256), cash(3, 1064), cash(4, 1000))
}

// Expire: what is marked is that contract alone, and nobody else is told.
func TestExpireAlone(t *testing.T) {
	d := day(t, 0, 1000, 1000)
	d.all(buy(1, 1, 100, 10), sell(2, 1, 100, 10), buy(2, 2, 100, 10), sell(1, 2, 100, 10), settlement(), settlement(), publish(2, 140))
	d.ok(expire(1), api.Reply{})
	d.accounts(0, cash(1, 1000), cash(2, 1000))
	d.positions(pos(2, 1, -10, -1000), pos(2, 2, 10, 1000))
	d.need(1, api.Need{M: 40, U: 400})
	d.need(2, api.Need{M: 100})
	d.ok(settlement(), api.Reply{})
	d.accounts(0, cash(1, 600), cash(2, 1400))
}

// The most that may be told: four thousand orders and bids that go at once.
func TestMostGone(t *testing.T) {
	s := api.State{Next: 4001, Accounts: []api.Account{cash(1, 1), cash(2, 1)}}
	var want []uint64
	for n := range uint32(16) {
		c := wide(n + 1)
		s.Contracts = append(s.Contracts, api.Contract{Spec: c, State: api.Open, Price: 50})
		s.Positions = append(s.Positions, pos(n+1, 1, 10, 1000), pos(n+1, 2, -10, -1000))
		for i := range uint64(200) {
			o := stood(n+1, uint64(n)*200+i+1, 1, i < 100, 90, 1)
			if i >= 100 {
				o.Order.Price = 110
			}
			s.Orders = append(s.Orders, o)
		}
		for i := range uint64(50) {
			s.Bids = append(s.Bids, stood(n+1, uint64(n)*50+i+3201, 1, true, 90, 1))
		}
		for i := range uint64(250) {
			number := uint64(n)*200 + i + 1
			if i >= 200 {
				number = uint64(n)*50 + i - 200 + 3201
			}
			want = append(want, number)
		}
	}
	d := at(t, s)
	other := at(t, s)
	d.ok(settlement(), api.Reply{Accounts: []uint32{1}, Gone: want})
	d.orders()
	d.bids()
	slices.Sort(want)
	if len(want) != 4000 || want[3999] != 4000 {
		t.Errorf("%d went", len(want))
	}
	r := other.do(mass(1, 0))
	slices.Sort(r.Gone)
	if !slices.Equal(r.Gone, want) {
		t.Errorf("%d went", len(r.Gone))
	}
}
