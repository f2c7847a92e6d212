package venue_test

import (
	"bytes"
	"math"
	"slices"
	"testing"

	"broadside/api"
	"broadside/venue"
	"broadside/words"
)

// the chapter's examples, and examples 1 to 6 of the whole.
func TestExamples(t *testing.T) {
	s := api.Spec{Number: 1, Route: 1, Tick: 1, Lot: 1, Band: 50, Limit: 100, LastDay: 1, First: 100}
	s.Shifts[0], s.Shifts[1] = 5, -5
	d := open(t, deposit(1, 1000), deposit(2, 1000), list(s))
	d.ok(buy(1, 1, 100, 3), rests(1, 3))
	d.ok(sell(2, 1, 100, 3), api.Reply{Number: 2, Filled: 3, Trades: []api.Trade{trade(100, 3, 1, 1)}})
	d.ok(publish(1, 110), api.Reply{})
	d.no(expire(1), api.ErrDay)
	d.ok(settlement(), api.Reply{})
	d.accounts(0, cash(1, 1030), cash(2, 970))
	d.no(withdraw(1, 1016), api.ErrMargin)
	d.ok(withdraw(1, 1015), api.Reply{})
	d.need(1, api.Need{M: 15})
	d.ok(publish(1, 1), api.Reply{})
	d.ok(settlement(), api.Reply{Accounts: []uint32{1}})
	d.accounts(0, api.Account{Number: 1, Default: true}, cash(2, 985))
	d.no(buy(1, 1, 1, 1), api.ErrDefault)
	d.ok(deposit(1, 7), api.Reply{})
	d.ok(liquidate(1), api.Reply{Left: 3, Trades: []api.Trade{trade(1, 3, 0, 2)}})
	d.no(liquidate(2), api.ErrSolvent)
	d.positions()
	d.ok(expire(1), api.Reply{})
	d.accounts(0, api.Account{Number: 1, Cash: 7, Default: true}, cash(2, 985))
	d.prices(map[uint32]int64{1: 1}, map[uint32]api.ContractState{1: api.Expired})
}

// P16.1: bytes that are no command's are answered ErrBad, and nothing changes; the reply has its form.
func TestDo(t *testing.T) {
	v := venue.New()
	bad := []byte{0xa0, 1}
	for _, b := range [][]byte{nil, {}, {0}, {99}, {15}, {12, 0}, {1, 1}, {1, 1, 10, 0}, {0x8c, 0}, {14, 0x81, 0}, {4, 1, 2}, bytes.Repeat([]byte{0xff}, 2000)} {
		if got := v.Do(b); !bytes.Equal(got, bad) {
			t.Errorf("Do of % x: % x", b, got)
		}
	}
	if !same(v.State(), api.State{Next: 1}) {
		t.Errorf("then there is %+v", v.State())
	}
	ok := []byte{0, 0, 0, 0, 0, 0, 0}
	for _, x := range []struct{ command, reply []byte }{
		{[]byte{1, 1, 10}, ok},
		{[]byte{1, 1, 9}, []byte{2}},
		{[]byte{2, 2, 10}, []byte{7}},
		{[]byte{2, 1, 12}, []byte{90}},
		{[]byte{5, 1, 1, 0, 0, 0, 0}, []byte{7}},
		{[]byte{6, 0, 1}, []byte{2}},
		{[]byte{10, 1, 1}, ok},
		{[]byte{12}, ok},
		{[]byte{13, 1}, []byte{0xa2, 1}},
		{[]byte{14, 9}, []byte{7}},
	} {
		command := slices.Clone(x.command)
		if got := v.Do(command); !bytes.Equal(got, x.reply) {
			t.Errorf("Do of % x: % x, want % x", x.command, got, x.reply)
		}
		if !bytes.Equal(command, x.command) {
			t.Errorf("Do has written to % x", x.command)
		}
	}
	want := api.State{Day: 1, Next: 1, Accounts: []api.Account{{Number: 1, Cash: 5, Killed: true}}}
	if !same(v.State(), want) {
		t.Errorf("then there is %+v", v.State())
	}
}

// P16.1: commands that may not be are answered ErrBad, whatever they ask.
func TestApplyBad(t *testing.T) {
	d := rich(t, 2, 1000, ship(1))
	d.ok(buy(1, 1, 100, 2), rests(1, 2))
	before := d.v.State()
	none := ship(1)
	none.First = 99
	for _, c := range []api.Command{
		{}, {Kind: 15}, {Kind: 255, Account: 1}, {Account: 1, Amount: 5},
		{Kind: api.CmdDeposit, Account: 1, Amount: 5, Contract: 1},
		{Kind: api.CmdDeposit, Account: 0, Amount: -5, Price: 1},
		{Kind: api.CmdSettle, Account: 1}, {Kind: api.CmdSettle, On: true},
		{Kind: api.CmdExpire, Contract: 9, Number: 1}, {Kind: api.CmdLiquidate, Account: 1, Qty: 1},
		{Kind: api.CmdCancel, Account: 1, Number: 1, Contract: 1}, {Kind: api.CmdBid, Account: 1, Contract: 1, As: 1, Price: 100, Qty: 2},
		{Kind: api.CmdList}, {Kind: api.CmdList, Spec: none}, {Kind: api.CmdList, Spec: ship(2), Account: 1},
	} {
		d.no(c, api.ErrBad)
	}
	d.state(before)
}

// P16.4: a venue that is not there, or a zero one, tells so, ahead of all else.
func TestNoVenue(t *testing.T) {
	var none *venue.Venue
	for name, v := range map[string]*venue.Venue{"none": none, "zero": {}} {
		for _, c := range []api.Command{deposit(1, 5), settlement(), {}, {Kind: 99}, buy(0, 0, 0, 0), cancel(1, 1), replace(1, 1, 1, 1), liquidate(1), mass(1, 0)} {
			if r := v.Apply(c); !words.SameReply(r, api.Reply{Errno: api.ErrNil}) {
				t.Errorf("%s: Apply of %+v: %+v", name, c, r)
			}
		}
		for _, b := range [][]byte{nil, {12}, {1, 1, 10}, {99}} {
			if got := v.Do(b); !bytes.Equal(got, []byte{1}) {
				t.Errorf("%s: Do of % x: % x", name, b, got)
			}
		}
		for _, account := range []uint32{0, 1, last} {
			if n, e := v.Need(account); e != api.ErrNil || n != (api.Need{}) {
				t.Errorf("%s: Need(%d): %+v, error %d", name, account, n, e)
			}
		}
		if !same(v.State(), api.State{}) || v.Copy() != nil {
			t.Errorf("%s: State %+v, Copy %v", name, v.State(), v.Copy())
		}
	}
}

// a new venue has nothing but the number of the first order.
func TestNew(t *testing.T) {
	d := open(t)
	d.state(api.State{Next: 1})
	for _, c := range []api.Command{withdraw(1, 1), halt(1, true), publish(1, 100), buy(1, 1, 100, 2), cancel(1, 1), replace(1, 1, 100, 2), mass(1, 0), bid(1, 1, true, 100, 2), kill(1, true), liquidate(1), expire(1)} {
		d.no(c, api.ErrNone)
	}
	d.ok(settlement(), api.Reply{})
	d.state(api.State{Day: 1, Next: 1})
}

// Deposit is the ledger's.
func TestDeposit(t *testing.T) {
	d := open(t)
	for _, n := range []int64{0, -1, math.MinInt64, mostFunds + 1, math.MaxInt64} {
		d.no(deposit(1, n), api.ErrArg)
		d.no(deposit(0, n), api.ErrArg)
	}
	d.ok(deposit(last, 1), api.Reply{})
	d.ok(deposit(7, 20), api.Reply{})
	d.ok(deposit(0, 300), api.Reply{})
	d.ok(deposit(7, 4000), api.Reply{})
	d.accounts(300, cash(7, 4020), cash(last, 1))
	d.no(deposit(3, mostFunds-4320), api.ErrOverflow)
	d.no(deposit(0, mostFunds), api.ErrOverflow)
	d.ok(deposit(3, mostFunds-4321), api.Reply{})
	d.accounts(300, cash(3, mostFunds-4321), cash(7, 4020), cash(last, 1))
	d.no(deposit(3, 1), api.ErrOverflow)
	d = rich(t, 64, 1)
	d.no(deposit(65, 1), api.ErrFull)
	d.ok(deposit(64, 1), api.Reply{})
	d.ok(deposit(0, 1), api.Reply{})
}

// Withdraw is the ledger's, for accounts that are not in default and can do without it.
func TestWithdraw(t *testing.T) {
	d := rich(t, 2, 1000, ship(1), ship(2))
	d.no(withdraw(0, 1), api.ErrArg)
	d.no(withdraw(1, 0), api.ErrArg)
	d.no(withdraw(9, -1), api.ErrArg)
	d.no(withdraw(1, mostFunds+1), api.ErrArg)
	d.no(withdraw(9, 1), api.ErrNone)
	d.no(withdraw(1, 1001), api.ErrCash)
	d.ok(withdraw(1, 1), api.Reply{})
	d.all(buy(1, 1, 100, 20), sell(2, 1, 100, 20))
	d.need(1, api.Need{M: 200})
	d.need(2, api.Need{M: 80})
	d.no(withdraw(1, 800), api.ErrMargin)
	d.no(withdraw(2, 921), api.ErrMargin)
	d.ok(withdraw(1, 799), api.Reply{})
	d.ok(withdraw(2, 920), api.Reply{})
	d.accounts(0, cash(1, 200), cash(2, 80))
	d.no(withdraw(1, 201), api.ErrCash)
	d.all(deposit(1, 46), deposit(2, 50), buy(1, 2, 105, 2), bid(2, 2, false, 90, 2))
	d.need(1, api.Need{M: 200, W: 30})
	d.need(2, api.Need{M: 80, W: 28})
	d.no(withdraw(1, 17), api.ErrMargin)
	d.ok(withdraw(1, 16), api.Reply{})
	d.no(withdraw(2, 23), api.ErrMargin)
	d.ok(withdraw(2, 22), api.Reply{})
	d.all(deposit(1, 200), publish(1, 90))
	d.need(1, api.Need{M: 200, W: 30, U: 200})
	d.no(withdraw(1, 1), api.ErrMargin)
	d.all(kill(1, true), deposit(1, 30))
	d.need(1, api.Need{M: 200, U: 200})
	d.no(withdraw(1, 61), api.ErrMargin)
	d.ok(withdraw(1, 60), api.Reply{})
}

// Withdraw: in default is told ahead of what it can bear, and behind what the ledger tells.
func TestWithdrawInDefault(t *testing.T) {
	d := at(t, api.State{Next: 1, Accounts: []api.Account{{Number: 1, Cash: 10, Default: true}, cash(2, 500)},
		Contracts: []api.Contract{{Spec: ship(1), State: api.Open, Price: 100}}, Positions: []api.Position{pos(1, 1, 20, 2000), pos(1, 2, -20, -2000)}})
	d.no(withdraw(1, 5), api.ErrDefault)
	d.no(withdraw(1, 11), api.ErrCash)
	d.no(withdraw(1, 0), api.ErrArg)
	d.ok(deposit(1, 1000), api.Reply{})
	d.no(withdraw(1, 5), api.ErrDefault)
	d.ok(settlement(), api.Reply{})
	d.no(withdraw(1, 5), api.ErrDefault)
	d.ok(liquidate(1), api.Reply{Left: 20, Trades: []api.Trade{trade(100, 20, 0, 2)}})
	d.no(withdraw(1, 5), api.ErrDefault)
	d.ok(settlement(), api.Reply{})
	d.ok(withdraw(1, 1010), api.Reply{})
	d.accounts(0, cash(1, 0), cash(2, 500))
}

// List, Halt and Publish are the calendar's.
func TestContracts(t *testing.T) {
	d := rich(t, 2, 1000)
	late := ship(9)
	late.LastDay = 0
	d.ok(list(late), api.Reply{})
	d.ok(list(ship(4)), api.Reply{})
	d.no(list(ship(4)), api.ErrTwice)
	d.no(halt(5, true), api.ErrNone)
	d.no(publish(5, 100), api.ErrNone)
	d.no(publish(4, 101), api.ErrPrice)
	d.no(publish(4, 0), api.ErrPrice)
	d.no(publish(4, mostPrice+5), api.ErrPrice)
	d.ok(publish(4, 2000), api.Reply{})
	d.ok(halt(4, true), api.Reply{})
	d.ok(publish(4, 105), api.Reply{})
	d.prices(map[uint32]int64{4: 105, 9: 100}, map[uint32]api.ContractState{4: api.Halted, 9: api.Open})
	d.no(buy(1, 4, 100, 2), api.ErrHalted)
	d.ok(halt(4, false), api.Reply{})
	d.ok(buy(1, 4, 100, 2), rests(1, 2))
	d.ok(expire(9), api.Reply{})
	d.no(halt(9, true), api.ErrExpired)
	d.no(publish(9, 100), api.ErrExpired)
	d.no(buy(1, 9, 100, 2), api.ErrExpired)
	d.no(bid(1, 9, true, 100, 2), api.ErrExpired)
	d.no(list(ship(9)), api.ErrTwice)
	d.ok(settlement(), api.Reply{})
	late.Number = 3
	d.no(list(late), api.ErrDay)
	for n := range uint32(14) {
		d.ok(list(ship(20+n)), api.Reply{})
	}
	d.no(list(ship(3)), api.ErrFull)
	d.no(list(late), api.ErrDay)
	d.ok(buy(1, 33, 100, 2), rests(2, 2))
}

// P16.4: Need is of accounts that are there, and of all contracts that are not expired.
func TestNeed(t *testing.T) {
	a, b, c := ship(1), ship(2), ship(3)
	a.Credit, b.Credit, c.Route = 3, 2, 2
	d := rich(t, 3, 10_000, a, b, c)
	for _, account := range []uint32{0, 4, last} {
		if n, e := d.v.Need(account); e != api.ErrNone || n != (api.Need{}) {
			t.Errorf("Need(%d): %+v, error %d", account, n, e)
		}
	}
	d.need(1, api.Need{})
	d.all(buy(1, 1, 100, 10), sell(2, 1, 100, 10), sell(1, 2, 100, 4), buy(2, 2, 100, 4), buy(1, 3, 100, 6), sell(3, 3, 100, 6))
	d.need(1, api.Need{M: 100 + 16 - 4*2 + 60})
	d.need(2, api.Need{M: 40 + 40 - 4*2})
	d.need(3, api.Need{M: 24})
	d.all(sell(1, 1, 95, 16), buy(1, 1, 90, 2), bid(1, 3, true, 120, 4), bid(1, 3, false, 95, 2), buy(3, 2, 85, 2))
	d.need(1, api.Need{M: 168, W: 20 + 16*5 + 40 + 4*20 + 2*5})
	d.need(3, api.Need{M: 24, W: 20})
	d.all(publish(1, 95), publish(3, 90))
	d.need(1, api.Need{M: 168, W: 20 + 40 + 4*30, U: 50 + 60})
	d.need(2, api.Need{M: 72})
	d.all(halt(1, true), halt(2, true), halt(3, true))
	d.need(1, api.Need{M: 168, W: 180, U: 110})
	d.all(settlement(), settlement(), expire(1), expire(2))
	d.need(1, api.Need{M: 60, W: 160})
	d.need(2, api.Need{})
	d.ok(expire(3), api.Reply{Gone: []uint64{9, 10}})
	d.need(1, api.Need{})
}

// P16.4: a copy is the same, and each of both goes its own way.
func TestCopy(t *testing.T) {
	d := rich(t, 3, 10_000, ship(1), ship(2))
	d.all(deposit(0, 9), buy(1, 1, 100, 10), sell(2, 1, 100, 4), sell(2, 1, 110, 4), bid(3, 1, true, 95, 6), bid(2, 1, true, 90, 6), sell(3, 2, 100, 2), kill(3, false))
	before := d.v.State()
	second := &desk{t, d.v.Copy()}
	second.state(before)
	for _, c := range []api.Command{deposit(4, 1), deposit(0, 5), withdraw(1, 5), list(ship(5)), halt(1, true), halt(1, false), publish(1, 105), buy(3, 1, 110, 6),
		cancel(1, 1), replace(3, 5, 100, 2), cancel(3, 3), cancel(2, 5), bid(1, 2, false, 100, 2), kill(2, true), mass(3, 0), settlement(), settlement(), expire(1)} {
		second.do(c)
		d.state(before)
	}
	third := &desk{t, d.v.Copy()}
	behind := second.v.State()
	d.all(cancel(3, 4), cancel(2, 5), mass(1, 0), settlement(), settlement(), expire(1))
	second.state(behind)
	third.state(before)
	third.bids(stood(1, 4, 3, true, 95, 6), stood(1, 5, 2, true, 90, 6))
}

// R2: what was answered may be written over, and what was handed in is not kept.
func TestAnswersAreNew(t *testing.T) {
	d := rich(t, 3, 10_000, ship(1), ship(2))
	d.all(buy(1, 1, 100, 10), sell(2, 1, 100, 4), sell(2, 1, 110, 4), bid(3, 1, true, 95, 6), bid(2, 1, true, 90, 6), sell(3, 2, 100, 2))
	before := d.v.State()
	handed := d.v.State()
	made := at(t, handed)
	for _, s := range []api.State{d.v.State(), made.v.State(), handed} {
		clear(s.Accounts)
		clear(s.Contracts)
		clear(s.Positions)
		clear(s.Orders)
		clear(s.Bids)
	}
	d.state(before)
	made.state(before)
	r := d.do(buy(1, 1, 110, 6))
	clear(r.Trades)
	r = d.do(kill(2, true))
	clear(r.Gone)
	d.bids(stood(1, 4, 3, true, 95, 6))
	d.orders(stood(1, 7, 1, true, 110, 2), stood(1, 1, 1, true, 100, 6), stood(2, 6, 3, false, 100, 2))
	d.positions(pos(1, 1, 8, 840), pos(1, 2, -8, -840))
}
