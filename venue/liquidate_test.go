package venue_test

import (
	"testing"

	"broadside/api"
)

// broke is a desk on which the account 1 is in default, with that position in the contract 1, and 2 and 3 each have half of it on the other side.
func broke(t *testing.T, q int64, bids ...api.Stood) *desk {
	t.Helper()
	s := api.State{Next: 100, Accounts: []api.Account{{Number: 1, Default: true}, cash(2, 10_000), cash(3, 10_000), cash(4, 10_000), cash(5, 10_000)},
		Contracts: []api.Contract{{Spec: ship(1), State: api.Open, Price: 100}}, Bids: bids,
		Positions: []api.Position{pos(1, 1, q, 100*q), pos(1, 2, -q/2, -50*q), pos(1, 3, -q/2, -50*q)}}
	return at(t, s)
}

// Liquidate: the errors in their order.
func TestLiquidateErrors(t *testing.T) {
	d := broke(t, 20)
	d.no(liquidate(0), api.ErrArg)
	d.no(liquidate(9), api.ErrNone)
	d.no(liquidate(last), api.ErrNone)
	d.no(liquidate(2), api.ErrSolvent)
	d.no(liquidate(4), api.ErrSolvent)
	d.all(kill(4, true))
	d.no(liquidate(4), api.ErrSolvent)
}

// Liquidate: who holds nothing has nothing to be closed; the mark stays.
func TestLiquidateNothing(t *testing.T) {
	d := at(t, api.State{Next: 5, Accounts: []api.Account{{Number: 1, Default: true}, cash(2, 100)},
		Contracts: []api.Contract{{Spec: ship(1), State: api.Open, Price: 100}}, Bids: []api.Stood{stood(1, 1, 2, true, 100, 2)}, Positions: []api.Position{pos(1, 1, 0, 50), pos(1, 2, 0, -50)}})
	before := d.v.State()
	d.ok(liquidate(1), api.Reply{})
	d.state(before)
}

// Liquidate, T15: what is held is sold to the bids that buy, the better ones first, all at one price; those that sell stay.
func TestLiquidateSells(t *testing.T) {
	d := broke(t, 20, stood(1, 1, 4, true, 80, 6), stood(1, 2, 5, true, 85, 4), stood(1, 3, 4, false, 70, 10), stood(1, 4, 4, true, 85, 6), stood(1, 5, 5, true, 80, 8), stood(1, 6, 5, true, 75, 8))
	d.ok(liquidate(1), api.Reply{Filled: 20, Trades: []api.Trade{trade(80, 4, 2, 5), trade(80, 6, 4, 4), trade(80, 6, 1, 4), trade(80, 4, 5, 5)}})
	d.positions(pos(1, 1, 0, 400), pos(1, 2, -10, -1000), pos(1, 3, -10, -1000), pos(1, 4, 12, 960), pos(1, 5, 8, 640))
	d.bids(stood(1, 3, 4, false, 70, 10), stood(1, 5, 5, true, 80, 4), stood(1, 6, 5, true, 75, 8))
	d.accounts(0, api.Account{Number: 1, Default: true}, cash(2, 10_000), cash(3, 10_000), cash(4, 10_000), cash(5, 10_000))
	d.ok(liquidate(1), api.Reply{})
}

// Liquidate, T15: what is owed is bought from the bids that sell.
func TestLiquidateBuys(t *testing.T) {
	d := broke(t, -20, stood(1, 1, 4, false, 120, 6), stood(1, 2, 5, false, 115, 4), stood(1, 3, 4, true, 130, 10), stood(1, 4, 2, false, 115, 6), stood(1, 5, 5, false, 120, 8), stood(1, 6, 5, false, 125, 8))
	d.ok(liquidate(1), api.Reply{Filled: 20, Trades: []api.Trade{trade(120, 4, 2, 5), trade(120, 6, 4, 2), trade(120, 6, 1, 4), trade(120, 4, 5, 5)}})
	d.positions(pos(1, 1, 0, 400), pos(1, 2, 4, 280), pos(1, 3, 10, 1000), pos(1, 4, -6, -720), pos(1, 5, -8, -960))
	d.bids(stood(1, 3, 4, true, 130, 10), stood(1, 5, 5, false, 120, 4), stood(1, 6, 5, false, 125, 8))
}

// Liquidate: what no bid takes is torn up at the price that counts, against what others hold then.
func TestLiquidateTornUp(t *testing.T) {
	d := broke(t, 20)
	d.ok(publish(1, 90), api.Reply{})
	d.ok(liquidate(1), api.Reply{Left: 20, Trades: []api.Trade{trade(90, 10, 0, 2), trade(90, 10, 0, 3)}})
	d.positions(pos(1, 1, 0, 200), pos(1, 2, 0, -100), pos(1, 3, 0, -100))
	d = broke(t, -20)
	d.ok(publish(1, 110), api.Reply{})
	d.ok(liquidate(1), api.Reply{Left: 20, Trades: []api.Trade{trade(110, 10, 0, 2), trade(110, 10, 0, 3)}})
	d.positions(pos(1, 1, 0, 200), pos(1, 2, 0, -100), pos(1, 3, 0, -100))
	d = broke(t, 20, stood(1, 1, 2, true, 95, 7), stood(1, 2, 4, true, 95, 2))
	d.ok(liquidate(1), api.Reply{Filled: 9, Left: 11, Trades: []api.Trade{trade(95, 7, 1, 2), trade(95, 2, 2, 4), trade(100, 3, 0, 2), trade(100, 8, 0, 3)}})
	d.positions(pos(1, 1, 0, 45), pos(1, 2, 0, -35), pos(1, 3, -2, -200), pos(1, 4, 2, 190))
	d.bids()
	d = broke(t, -20, stood(1, 1, 2, false, 105, 7), stood(1, 2, 4, false, 105, 2))
	d.ok(liquidate(1), api.Reply{Filled: 9, Left: 11, Trades: []api.Trade{trade(105, 7, 1, 2), trade(105, 2, 2, 4), trade(100, 3, 0, 2), trade(100, 8, 0, 3)}})
	d.positions(pos(1, 1, 0, 45), pos(1, 2, 0, -35), pos(1, 3, 2, 200), pos(1, 4, -2, -210))
}

// Liquidate: contract by contract, by rising numbers, halted ones too, each with its own bids; an expired one has nothing.
func TestLiquidateContracts(t *testing.T) {
	s := api.State{Next: 100, Accounts: []api.Account{{Number: 1, Default: true}, {Number: 2, Cash: 10_000, Default: true}, cash(3, 10_000)},
		Contracts: []api.Contract{{Spec: ship(2), State: api.Open, Price: 100}, {Spec: ship(4), State: api.Halted, Price: 200}, {Spec: ship(5), State: api.Expired, Price: 100}, {Spec: ship(6), State: api.Open, Price: 300}, {Spec: ship(8), State: api.Open, Price: 100}},
		Bids:      []api.Stood{stood(2, 9, 3, true, 95, 4), stood(4, 7, 3, false, 210, 2), stood(4, 8, 3, true, 210, 20), stood(6, 2, 3, true, 300, 4)},
		Positions: []api.Position{pos(2, 1, 6, 600), pos(2, 2, -6, -600), pos(4, 1, -4, -800), pos(4, 3, 4, 800), pos(6, 2, 2, 600), pos(6, 3, -2, -600), pos(8, 1, 6, 600), pos(8, 2, 2, 200), pos(8, 3, -8, -800)}}
	d := at(t, s)
	d.ok(liquidate(1), api.Reply{Filled: 6, Left: 10, Trades: []api.Trade{trade(95, 4, 9, 3), trade(100, 2, 0, 2), trade(210, 2, 7, 3), trade(200, 2, 0, 3), trade(100, 6, 0, 3)}})
	d.positions(pos(2, 1, 0, 20), pos(2, 2, -4, -400), pos(2, 3, 4, 380), pos(4, 1, 0, 20), pos(4, 3, 0, -20), pos(6, 2, 2, 600), pos(6, 3, -2, -600), pos(8, 2, 2, 200), pos(8, 3, -2, -200))
	d.bids(stood(4, 8, 3, true, 210, 20), stood(6, 2, 3, true, 300, 4))
	d.ok(liquidate(2), api.Reply{Filled: 2, Left: 6, Trades: []api.Trade{trade(100, 4, 0, 3), trade(300, 2, 2, 3), trade(100, 2, 0, 3)}})
	d.bids(stood(4, 8, 3, true, 210, 20), stood(6, 2, 3, true, 300, 2))
	d.ok(settlement(), api.Reply{Accounts: []uint32{1}})
	d.accounts(0, api.Account{Number: 1, Default: true}, cash(2, 10_000), cash(3, 10_000))
	d.ok(settlement(), api.Reply{})
	d.accounts(0, cash(1, 0), cash(2, 10_000), cash(3, 10_000))
	d.positions()
}

// Liquidate: a bid of which something odd is left still stands, and trades on.
func TestLiquidateOddLeft(t *testing.T) {
	d := broke(t, 20, stood(1, 1, 4, true, 95, 4), stood(1, 2, 5, true, 95, 19))
	d.ok(liquidate(1), api.Reply{Filled: 20, Trades: []api.Trade{trade(95, 4, 1, 4), trade(95, 16, 2, 5)}})
	d.bids(stood(1, 2, 5, true, 95, 3))
	d.ok(cancel(5, 2), rests(2, 3))
}

// Liquidate: what the ledger refuses is refused whole, in whatever contract.
func TestLiquidateOverflow(t *testing.T) {
	full := func(q int64) api.State {
		return api.State{Next: 100, Accounts: []api.Account{{Number: 1, Default: true}, cash(2, 10), cash(3, 10), cash(4, 10)},
			Contracts: []api.Contract{{Spec: wide(1), State: api.Open, Price: 100}, {Spec: wide(2), State: api.Open, Price: 100}}, Bids: []api.Stood{stood(2, 1, 2, true, 100, q)},
			Positions: []api.Position{pos(1, 1, 4, 0), pos(1, 2, -4, 0), pos(2, 1, q, 0), pos(2, 2, 9_999_998, 0), pos(2, 3, -9_999_990, 0), pos(2, 4, -8-q, 0)}}
	}
	at(t, full(2)).ok(liquidate(1), api.Reply{Filled: 2, Left: 4, Trades: []api.Trade{trade(100, 4, 0, 2), trade(100, 2, 1, 2)}})
	at(t, full(3)).no(liquidate(1), api.ErrOverflow)
	dear := api.State{Next: 100, Accounts: []api.Account{{Number: 1, Default: true}, cash(2, 10), cash(3, 10)},
		Contracts: []api.Contract{{Spec: wide(1), State: api.Open, Price: 100}},
		Positions: []api.Position{pos(1, 1, -4, mostFunds-400), pos(1, 2, 4, 0), pos(1, 3, 0, 400-mostFunds)}}
	at(t, dear).ok(liquidate(1), api.Reply{Left: 4, Trades: []api.Trade{trade(100, 4, 0, 2)}})
	dear.Contracts[0].Price = 101
	at(t, dear).no(liquidate(1), api.ErrOverflow)
}
