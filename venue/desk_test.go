package venue_test

import (
	"bytes"
	"math"
	"slices"
	"testing"

	"broadside/api"
	"broadside/expose"
	"broadside/venue"
	"broadside/words"
)

const (
	mostFunds  = int64(1_000_000_000_000_000)
	mostPrice  = int64(10_000_000)
	mostQty    = int64(1_000_000)
	mostNumber = uint64(1) << 62
	last       = uint32(math.MaxUint32)
)

// ship is a contract whose quantities are even, whose prices are multiples of 5, and of which one may lose 10 or 4 apiece.
func ship(number uint32) api.Spec {
	s := api.Spec{Number: number, Route: 1, Tick: 5, Lot: 2, Band: 50, Limit: 1000, LastDay: 2, First: 100}
	s.Shifts[3], s.Shifts[12] = 4, -10
	return s
}

// wide is a contract in which anything may be traded at any price, at next to no margin.
func wide(number uint32) api.Spec {
	s := api.Spec{Number: number, Route: 8, Tick: 1, Lot: 1, Band: mostPrice, Limit: mostPrice, LastDay: last, First: 100}
	s.Shifts[0], s.Shifts[1] = 1, -1
	return s
}

func deposit(account uint32, n int64) api.Command {
	return api.Command{Kind: api.CmdDeposit, Account: account, Amount: n}
}

func withdraw(account uint32, n int64) api.Command {
	return api.Command{Kind: api.CmdWithdraw, Account: account, Amount: n}
}

func list(s api.Spec) api.Command { return api.Command{Kind: api.CmdList, Spec: s} }

func halt(contract uint32, on bool) api.Command {
	return api.Command{Kind: api.CmdHalt, Contract: contract, On: on}
}

func publish(contract uint32, price int64) api.Command {
	return api.Command{Kind: api.CmdPublish, Contract: contract, Price: price}
}

func buy(account, contract uint32, price, qty int64) api.Command {
	return api.Command{Kind: api.CmdNew, Account: account, Contract: contract, Buy: true, As: api.KindLimit, Price: price, Qty: qty}
}

func sell(account, contract uint32, price, qty int64) api.Command {
	return api.Command{Kind: api.CmdNew, Account: account, Contract: contract, As: api.KindLimit, Price: price, Qty: qty}
}

// as is a new order of another kind.
func as(c api.Command, k api.Kind) api.Command {
	c.As = k
	return c
}

func bid(account, contract uint32, buys bool, price, qty int64) api.Command {
	return api.Command{Kind: api.CmdBid, Account: account, Contract: contract, Buy: buys, Price: price, Qty: qty}
}

func cancel(account uint32, number uint64) api.Command {
	return api.Command{Kind: api.CmdCancel, Account: account, Number: number}
}

func replace(account uint32, number uint64, price, qty int64) api.Command {
	return api.Command{Kind: api.CmdReplace, Account: account, Number: number, Price: price, Qty: qty}
}

func mass(account, contract uint32) api.Command {
	return api.Command{Kind: api.CmdMass, Account: account, Contract: contract}
}

func kill(account uint32, on bool) api.Command {
	return api.Command{Kind: api.CmdKill, Account: account, On: on}
}

func settlement() api.Command { return api.Command{Kind: api.CmdSettle} }

func liquidate(account uint32) api.Command {
	return api.Command{Kind: api.CmdLiquidate, Account: account}
}

func expire(contract uint32) api.Command {
	return api.Command{Kind: api.CmdExpire, Contract: contract}
}

// rests is the reply to an order, or a bid, of which all rests.
func rests(number uint64, left int64) api.Reply { return api.Reply{Number: number, Left: left} }

// trade is one of a reply's.
func trade(price, qty int64, number uint64, account uint32) api.Trade {
	return api.Trade{Price: price, Qty: qty, Number: number, Account: account}
}

// cash is an account without marks.
func cash(number uint32, n int64) api.Account { return api.Account{Number: number, Cash: n} }

// pos is a position.
func pos(contract, account uint32, q, basis int64) api.Position {
	return api.Position{Contract: contract, Account: account, Q: q, Basis: basis}
}

// stood is an order, or a bid, that stands.
func stood(contract uint32, number uint64, account uint32, buys bool, price, left int64) api.Stood {
	return api.Stood{Contract: contract, Order: api.Order{Number: number, Account: account, Buy: buys, Price: price, Left: left}}
}

// same tells whether all of both is alike; none and an empty list are one.
func same(a, b api.State) bool {
	return a.Day == b.Day && a.Next == b.Next && a.Fund == b.Fund &&
		slices.Equal(a.Accounts, b.Accounts) && slices.Equal(a.Contracts, b.Contracts) && slices.Equal(a.Positions, b.Positions) &&
		slices.Equal(a.Orders, b.Orders) && slices.Equal(a.Bids, b.Bids)
}

// desk is a venue at which commands are done, each in all ways in which one may be done.
type desk struct {
	t *testing.T
	v *venue.Venue
}

// at is a desk whose venue is the state's.
func at(t *testing.T, s api.State) *desk {
	t.Helper()
	v, e := venue.From(s)
	if e != api.OK || v == nil {
		t.Fatalf("From of a state that may be: error %d", e)
	}
	return &desk{t, v}
}

// open is a desk at which commands were done that are answered OK.
func open(t *testing.T, l ...api.Command) *desk {
	t.Helper()
	d := &desk{t, venue.New()}
	return d.all(l...)
}

// rich is a desk with accounts from 1 to n, which have as much cash each, and contracts from 1 on.
func rich(t *testing.T, n uint32, each int64, specs ...api.Spec) *desk {
	t.Helper()
	d := open(t)
	for i := range n {
		d.ok(deposit(i+1, each), api.Reply{})
	}
	for _, s := range specs {
		d.ok(list(s), api.Reply{})
	}
	return d
}

// all lets commands be done that are answered OK.
func (d *desk) all(l ...api.Command) *desk {
	d.t.Helper()
	for _, c := range l {
		if r := d.do(c); r.Errno != api.OK {
			d.t.Errorf("%+v: error %d", c, r.Errno)
		}
	}
	return d
}

// do does a command at the venue, and its bytes at a copy of it and at one made of its state: all answer the same and become the same.
func (d *desk) do(c api.Command) api.Reply {
	d.t.Helper()
	before := d.v.State()
	twin := d.v.Copy()
	made, e := venue.From(before)
	if e != api.OK {
		d.t.Fatalf("From refuses what State tells ahead of %+v: error %d", c, e)
	}
	r := d.v.Apply(c)
	behind := d.v.State()
	if r.Errno != api.OK && !same(before, behind) {
		d.t.Errorf("%+v, error %d: it was %+v and is %+v", c, r.Errno, before, behind)
	}
	if !same(twin.State(), before) {
		d.t.Errorf("%+v has changed a copy", c)
	}
	form, e := words.Command(c)
	if e != api.OK {
		form = []byte{99}
	}
	want, e := words.Reply(r)
	if e != api.OK {
		d.t.Fatalf("%+v is answered by what is no reply: %+v", c, r)
	}
	for name, v := range map[string]*venue.Venue{"a copy": twin, "one that is made": made} {
		if got := v.Do(form); !bytes.Equal(got, want) || !same(v.State(), behind) {
			d.t.Errorf("%+v, %s: % x, want % x; it is %+v, want %+v", c, name, got, want, v.State(), behind)
		}
	}
	d.bears(c, r)
	return r
}

// bears: behind what was taken the account has the cash that it needs.
func (d *desk) bears(c api.Command, r api.Reply) {
	d.t.Helper()
	asked := c.Kind == api.CmdNew || c.Kind == api.CmdReplace || c.Kind == api.CmdBid || c.Kind == api.CmdWithdraw
	if !asked || r.Errno != api.OK {
		return
	}
	n, e := d.v.Need(c.Account)
	if a := d.account(c.Account); e != api.OK || a.Cash < expose.Total(n) {
		d.t.Errorf("behind %+v there are %+v and the need %+v, error %d", c, a, n, e)
	}
}

// account is one that is there.
func (d *desk) account(number uint32) api.Account {
	d.t.Helper()
	for _, a := range d.v.State().Accounts {
		if a.Number == number {
			return a
		}
	}
	d.t.Fatalf("no account %d", number)
	return api.Account{}
}

// ok: the command is answered just that.
func (d *desk) ok(c api.Command, want api.Reply) {
	d.t.Helper()
	if r := d.do(c); !words.SameReply(r, want) {
		d.t.Errorf("%+v: %+v, want %+v", c, r, want)
	}
}

// no: the command is answered that error.
func (d *desk) no(c api.Command, e api.Errno) {
	d.t.Helper()
	d.ok(c, api.Reply{Errno: e})
}

// need: the account needs that.
func (d *desk) need(account uint32, want api.Need) {
	d.t.Helper()
	if n, e := d.v.Need(account); e != api.OK || n != want {
		d.t.Errorf("Need(%d): %+v, error %d; want %+v", account, n, e, want)
	}
}

// accounts: there are these, and no other ones, and the fund has that.
func (d *desk) accounts(fund int64, want ...api.Account) {
	d.t.Helper()
	if s := d.v.State(); s.Fund != fund || !slices.Equal(s.Accounts, want) {
		d.t.Errorf("fund %d, accounts %+v; want %d, %+v", s.Fund, s.Accounts, fund, want)
	}
}

// positions: there are these, and no other ones.
func (d *desk) positions(want ...api.Position) {
	d.t.Helper()
	if s := d.v.State(); !slices.Equal(s.Positions, want) {
		d.t.Errorf("positions %+v, want %+v", s.Positions, want)
	}
}

// orders: these stand, and no other ones.
func (d *desk) orders(want ...api.Stood) {
	d.t.Helper()
	if s := d.v.State(); !slices.Equal(s.Orders, want) {
		d.t.Errorf("orders %+v, want %+v", s.Orders, want)
	}
}

// bids: these stand, and no other ones.
func (d *desk) bids(want ...api.Stood) {
	d.t.Helper()
	if s := d.v.State(); !slices.Equal(s.Bids, want) {
		d.t.Errorf("bids %+v, want %+v", s.Bids, want)
	}
}

// state: the venue has just that.
func (d *desk) state(want api.State) {
	d.t.Helper()
	if s := d.v.State(); !same(s, want) {
		d.t.Errorf("state %+v, want %+v", s, want)
	}
}

// prices: the contracts' prices that count, and their states.
func (d *desk) prices(want map[uint32]int64, states map[uint32]api.ContractState) {
	d.t.Helper()
	for _, c := range d.v.State().Contracts {
		if c.Price != want[c.Spec.Number] || c.State != states[c.Spec.Number] {
			d.t.Errorf("contract %+v, want the price %d, the state %d", c, want[c.Spec.Number], states[c.Spec.Number])
		}
	}
}
