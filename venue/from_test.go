package venue_test

import (
	"math"
	"slices"
	"testing"

	"broadside/api"
	"broadside/venue"
)

// whole is a state in which there is something of everything.
func whole() api.State {
	return api.State{
		Day: 5, Next: 50, Fund: 30,
		Accounts: []api.Account{cash(1, 1000), {Number: 3, Killed: true}, cash(4, 20), {Number: 7, Cash: 5, Default: true}, {Number: last, Killed: true, Default: true}},
		Contracts: []api.Contract{{Spec: ship(2), State: api.Open, Price: 200}, {Spec: ship(4), State: api.Halted, Price: 5}, {Spec: ship(5), State: api.Expired, Price: 100},
			{Spec: ship(last), State: api.Open, Price: mostPrice}},
		Positions: []api.Position{pos(2, 1, 5, 100), pos(2, 3, -3, 0), pos(2, last, -2, -100), pos(4, 4, 0, 7), pos(4, 7, 0, -7)},
		Orders: []api.Stood{stood(2, 9, 1, true, 100, 4), stood(2, 3, 4, true, 95, 2), stood(2, 40, 1, true, 90, 10), stood(2, 8, 4, true, 90, 2), stood(2, 1, 4, false, 105, 2), stood(2, 2, 1, false, 105, 2),
			stood(2, 49, 4, false, 110, mostQty), stood(4, 10, 1, false, 5, 2), stood(last, 11, 1, true, mostPrice, 2)},
		Bids: []api.Stood{stood(2, 12, 1, true, 500, 3), stood(2, 13, 4, false, 5, 1), stood(2, 48, 1, true, 5, mostQty), stood(4, 4, 4, false, mostPrice, 1), stood(4, 5, 4, true, mostPrice, 1)},
	}
}

// change is what a state is changed by.
type change struct {
	name string
	does func(s *api.State)
}

// P16.3, P16.7: what may be is taken, and told again just so; the venue goes on with it.
func TestFrom(t *testing.T) {
	for _, x := range []change{
		{"as it is", func(s *api.State) {}},
		{"nothing", func(s *api.State) { *s = api.State{Next: 1} }},
		{"the last day", func(s *api.State) { s.Day = last }},
		{"the day 0", func(s *api.State) { s.Day = 0 }},
		{"the greatest next number", func(s *api.State) { s.Next = mostNumber + 1 }},
		{"the greatest number", func(s *api.State) { s.Next, s.Orders[8].Order.Number = mostNumber+1, mostNumber }},
		{"the greatest number of a bid", func(s *api.State) { s.Next, s.Bids[4].Order.Number = mostNumber+1, mostNumber }},
		{"the greatest fund", func(s *api.State) { s.Fund = mostFunds - 1025 }},
		{"the greatest cash", func(s *api.State) { s.Fund, s.Accounts[0].Cash = 0, mostFunds-25 }},
		{"no cash", func(s *api.State) { s.Fund, s.Accounts[0].Cash = 0, 0 }},
		{"a price between", func(s *api.State) { s.Contracts[0].Price = 105 }},
		{"an expired contract's price", func(s *api.State) { s.Contracts[2].Price = mostPrice }},
		{"the least price and quantity", func(s *api.State) { s.Orders[3] = stood(2, 8, 4, true, 5, 2) }},
		{"the first number", func(s *api.State) { s.Bids[0].Order.Number, s.Orders[4].Order.Number = 1, 41 }},
		{"no orders", func(s *api.State) { s.Orders = nil }},
		{"no bids", func(s *api.State) { s.Bids = []api.Stood{} }},
		{"no orders and bids, and the first number", func(s *api.State) { s.Orders, s.Bids, s.Next = nil, nil, 1 }},
		{"orders of a halted contract", func(s *api.State) { s.Contracts[0].State = api.Halted }},
		{"prices that all are the same", func(s *api.State) { s.Orders[0].Order.Price, s.Orders[1].Order.Price = 90, 90 }},
		{"the greatest position", func(s *api.State) {
			s.Positions[3], s.Positions[4] = pos(4, 4, 10_000_000, mostFunds), pos(4, 7, -10_000_000, -mostFunds)
		}},
		{"a position above the limit", func(s *api.State) { s.Positions[3].Q, s.Positions[4].Q = 1001, -1001 }},
	} {
		s := whole()
		x.does(&s)
		d := at(t, s)
		d.state(s)
		d.no(cancel(4, math.MaxUint64), api.ErrNone)
	}
}

// refusals are changes by which a state may not be.
func refusals() []change {
	return []change{
		{"a fund below 0", func(s *api.State) { s.Fund = -1 }},
		{"the least fund", func(s *api.State) { s.Fund = math.MinInt64 }},
		{"a fund too great", func(s *api.State) { s.Fund = mostFunds - 1024 }},
		{"the greatest number as fund", func(s *api.State) { s.Fund = math.MaxInt64 }},
		{"a cash below 0", func(s *api.State) { s.Accounts[2].Cash = -1 }},
		{"a cash too great", func(s *api.State) { s.Accounts[0].Cash = mostFunds - 54 }},
		{"cash that wraps", func(s *api.State) { s.Accounts[0].Cash, s.Accounts[1].Cash = math.MaxInt64, math.MaxInt64 }},
		{"the account 0", func(s *api.State) {
			s.Accounts[0].Number, s.Positions, s.Orders, s.Bids = 0, nil, nil, nil
		}},
		{"accounts that fall", func(s *api.State) { s.Accounts[2].Number = 8 }},
		{"an account twice", func(s *api.State) { s.Accounts[1] = s.Accounts[0] }},
		{"sixty-five accounts", func(s *api.State) { s.Accounts = many(65) }},
		{"contracts that fall", func(s *api.State) { s.Contracts[0], s.Contracts[1] = s.Contracts[1], s.Contracts[0] }},
		{"a contract twice", func(s *api.State) { s.Contracts[2] = s.Contracts[1] }},
		{"the contract 0", func(s *api.State) {
			s.Contracts = slices.Insert(s.Contracts, 0, api.Contract{Spec: ship(0), State: api.Open, Price: 100})
		}},
		{"seventeen contracts", func(s *api.State) { s.Contracts = contracts(17) }},
		{"data that may not be", func(s *api.State) { s.Contracts[2].Spec.First = 101 }},
		{"the state 0", func(s *api.State) { s.Contracts[0].State = 0 }},
		{"the state 4", func(s *api.State) { s.Contracts[2].State = 4 }},
		{"no price", func(s *api.State) { s.Contracts[0].Price = 0 }},
		{"a price between ticks", func(s *api.State) { s.Contracts[2].Price = 101 }},
		{"a price too high", func(s *api.State) { s.Contracts[2].Price = mostPrice + 5 }},
		{"positions that fall", func(s *api.State) { s.Positions[0], s.Positions[1] = s.Positions[1], s.Positions[0] }},
		{"positions whose contracts fall", func(s *api.State) { s.Positions = slices.Concat(s.Positions[3:], s.Positions[:3]) }},
		{"a position twice", func(s *api.State) { s.Positions = slices.Insert(s.Positions, 0, pos(2, 1, 0, 1), pos(2, 1, 0, -1)) }},
		{"a position of no account", func(s *api.State) { s.Positions[1].Account = 2 }},
		{"a position of the fund", func(s *api.State) { s.Positions[0].Account = 0 }},
		{"a position of no contract", func(s *api.State) { s.Positions[3].Contract, s.Positions[4].Contract = 3, 3 }},
		{"a position of the contract 0", func(s *api.State) { s.Positions = slices.Insert(s.Positions, 0, pos(0, 1, 1, 1), pos(0, 3, -1, -1)) }},
		{"a position of an expired contract", func(s *api.State) { s.Positions[3].Contract, s.Positions[4].Contract = 5, 5 }},
		{"a contract that expires with positions", func(s *api.State) { s.Contracts[1].State, s.Orders, s.Bids = api.Expired, nil, nil }},
		{"a position of nothing", func(s *api.State) { s.Positions[3].Basis, s.Positions[4].Basis = 0, 0 }},
		{"a quantity too great", func(s *api.State) { s.Positions[3].Q, s.Positions[4].Q = 10_000_001, -10_000_001 }},
		{"a basis too great", func(s *api.State) { s.Positions[3].Basis, s.Positions[4].Basis = mostFunds+1, -mostFunds-1 }},
		{"quantities that are not even", func(s *api.State) { s.Positions[0].Q = 6 }},
		{"bases that are not even", func(s *api.State) { s.Positions[4].Basis = -6 }},
		{"even only over contracts", func(s *api.State) { s.Positions[0].Q, s.Positions[3].Q = 6, -1 }},
		{"the next number 0", func(s *api.State) { s.Next, s.Orders, s.Bids = 0, nil, nil }},
		{"a next number too great", func(s *api.State) { s.Next = mostNumber + 2 }},
		{"the greatest number as next", func(s *api.State) { s.Next = math.MaxUint64 }},
	}
}

// standings are changes of what stands, by which a state may not be.
func standings() []change {
	of := func(s *api.State, bid bool) *api.Stood {
		if bid {
			return &s.Bids[1]
		}
		return &s.Orders[6]
	}
	var l []change
	for _, bid := range []bool{false, true} {
		name := map[bool]string{false: "an order ", true: "a bid "}[bid]
		one := func(what string, does func(o *api.Stood)) {
			l = append(l, change{name + what, func(s *api.State) { does(of(s, bid)) }})
		}
		one("with the number 0", func(o *api.Stood) { o.Order.Number = 0 })
		one("with the next number", func(o *api.Stood) { o.Order.Number = 50 })
		one("with a number behind", func(o *api.Stood) { o.Order.Number = 51 })
		one("with the greatest number", func(o *api.Stood) { o.Order.Number = math.MaxUint64 })
		one("with an order's number", func(o *api.Stood) { o.Order.Number = 11 })
		one("with an elder order's number", func(o *api.Stood) { o.Order.Number = 40 })
		one("with a bid's number", func(o *api.Stood) { o.Order.Number = 48 })
		one("with a last bid's number", func(o *api.Stood) { o.Order.Number = 5 })
		one("of the account 0", func(o *api.Stood) { o.Order.Account = 0 })
		one("of no account", func(o *api.Stood) { o.Order.Account = 2 })
		one("of an account that is killed", func(o *api.Stood) { o.Order.Account = 3 })
		one("of an account in default", func(o *api.Stood) { o.Order.Account = 7 })
		one("of an account that is both", func(o *api.Stood) { o.Order.Account = last })
		one("of no contract", func(o *api.Stood) { o.Contract = 3 })
		one("of the contract 0", func(o *api.Stood) { o.Contract = 0 })
		one("of an expired contract", func(o *api.Stood) { o.Contract = 5 })
		one("without a price", func(o *api.Stood) { o.Order.Price = 0 })
		one("with a price below 0", func(o *api.Stood) { o.Order.Price = -5 })
		one("with a price between ticks", func(o *api.Stood) { o.Order.Price = 112 })
		one("with a price too high", func(o *api.Stood) { o.Order.Price = mostPrice + 5 })
		one("of which nothing is left", func(o *api.Stood) { o.Order.Left = 0 })
		one("of which less is left", func(o *api.Stood) { o.Order.Left = -2 })
		one("of which too much is left", func(o *api.Stood) { o.Order.Left = mostQty + 2 })
	}
	return append(l, []change{
		{"an order of which something odd is left", func(s *api.State) { s.Orders[0].Order.Left = 5 }},
		{"an order in the next contract", func(s *api.State) { s.Orders[6].Contract = 4 }},
		{"orders whose contracts fall", func(s *api.State) { s.Orders[7], s.Orders[8] = s.Orders[8], s.Orders[7] }},
		{"orders of one contract apart", func(s *api.State) { s.Orders = append(s.Orders[1:], s.Orders[0]) }},
		{"those that sell ahead", func(s *api.State) { s.Orders = slices.Concat(s.Orders[4:7], s.Orders[:4], s.Orders[7:]) }},
		{"the worse price ahead, of those that buy", func(s *api.State) { s.Orders[0], s.Orders[1] = s.Orders[1], s.Orders[0] }},
		{"the worse price ahead, of those that sell", func(s *api.State) { s.Orders[5], s.Orders[6] = s.Orders[6], s.Orders[5] }},
		{"one that buys as good as one that sells", func(s *api.State) { s.Orders[0].Order.Price = 105 }},
		{"one that buys better than one that sells", func(s *api.State) { s.Orders[0].Order.Price = 150 }},
		{"one that is as good as one of its own account", func(s *api.State) {
			s.Orders = []api.Stood{stood(2, 1, 1, true, 100, 2), stood(2, 2, 1, false, 100, 2)}
		}},
		{"one that is better than one of its own account", func(s *api.State) {
			s.Orders = []api.Stood{stood(2, 1, 1, true, 105, 2), stood(2, 2, 1, true, 95, 2), stood(2, 3, 1, false, 100, 2), stood(2, 4, 1, false, 115, 2)}
		}},
		{"a hundred and one that buy", func(s *api.State) { s.Orders, s.Bids, s.Next = crowd(2, 101, true), nil, 1000 }},
		{"a hundred and one that sell", func(s *api.State) { s.Orders, s.Bids, s.Next = crowd(2, 101, false), nil, 1000 }},
		{"bids whose contracts fall", func(s *api.State) { s.Bids = slices.Concat(s.Bids[3:], s.Bids[:3]) }},
		{"bids of one contract apart", func(s *api.State) { s.Bids = append(s.Bids, stood(2, 47, 1, true, 5, 1)) }},
		{"bids whose numbers fall", func(s *api.State) { s.Bids[0], s.Bids[1] = s.Bids[1], s.Bids[0] }},
		{"last bids whose numbers fall", func(s *api.State) { s.Bids[3], s.Bids[4] = s.Bids[4], s.Bids[3] }},
		{"fifty-one bids", func(s *api.State) { s.Orders, s.Bids, s.Next = nil, crowd(2, 51, true), 1000 }},
		{"fifty-one bids in the second contract", func(s *api.State) {
			s.Orders, s.Bids, s.Next = nil, append(crowd(2, 3, true), crowd(4, 51, true)...), 10_000
		}},
	}...)
}

// many are accounts.
func many(n uint32) []api.Account {
	var l []api.Account
	for i := range n {
		l = append(l, cash(i+1, 1))
	}
	return l
}

// contracts are so many.
func contracts(n uint32) []api.Contract {
	var l []api.Contract
	for i := range n {
		l = append(l, api.Contract{Spec: ship(i + 1), State: api.Open, Price: 100})
	}
	return l
}

// crowd are so many on one side of a contract, of the accounts 1 and 4.
func crowd(contract uint32, n uint64, buys bool) []api.Stood {
	var l []api.Stood
	for i := range n {
		l = append(l, stood(contract, uint64(contract)*200+i, 1+3*uint32(i%2), buys, 100, 2))
	}
	return l
}

// P16.3: what may not be is refused, and leaves no venue.
func TestFromRefuses(t *testing.T) {
	for _, x := range append(refusals(), standings()...) {
		s := whole()
		x.does(&s)
		if v, e := venue.From(s); v != nil || e != api.ErrArg {
			t.Errorf("%s: error %d", x.name, e)
		}
	}
	if v, e := venue.From(api.State{}); v != nil || e != api.ErrArg {
		t.Errorf("a zero state: error %d", e)
	}
}

// P16.3: as many as may be.
func TestFromMost(t *testing.T) {
	s := api.State{Next: 1_000_000, Accounts: many(64), Contracts: contracts(16)}
	for n := range uint32(16) {
		for i := range uint32(32) {
			s.Positions = append(s.Positions, pos(n+1, 2*i+1, 2, 200), pos(n+1, 2*i+2, -2, -200))
		}
		for i := range uint64(100) {
			s.Orders = append(s.Orders, stood(n+1, uint64(n)*1000+i+1, 1+uint32(i%64), true, 95, 2))
		}
		for i := range uint64(100) {
			s.Orders = append(s.Orders, stood(n+1, uint64(n)*1000+i+101, 1+uint32(i%64), false, 100, 2))
		}
		for i := range uint64(50) {
			s.Bids = append(s.Bids, stood(n+1, uint64(n)*1000+i+201, 1+uint32(i%64), i%2 == 0, 100, 2))
		}
	}
	d := at(t, s)
	d.state(s)
	d.no(deposit(65, 1), api.ErrFull)
	d.no(list(ship(17)), api.ErrFull)
	d.no(buy(1, 16, 95, 2), api.ErrFull)
	d.no(bid(1, 16, true, 95, 2), api.ErrFull)
	d.no(buy(1, 16, 100, 2), api.ErrMargin)
}

// R2: the state that is handed in is not written to.
func TestFromWritesNothing(t *testing.T) {
	s := whole()
	d := at(t, s)
	d.all(mass(1, 0), mass(4, 0), deposit(0, 1), publish(2, 100), settlement())
	if !same(s, whole()) {
		t.Errorf("the state is %+v", s)
	}
}
