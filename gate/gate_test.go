package gate_test

import (
	"math"
	"testing"

	"broadside/api"
	"broadside/gate"
)

const (
	least        = math.MinInt64
	greatest     = math.MaxInt64
	mostPrice    = int64(10_000_000)
	mostQty      = int64(1_000_000)
	mostPosition = int64(10_000_000)
	mostScan     = int64(1_000_000_000)
)

// example is the chapter's gate, without its order's numbers.
func example(buy bool, price, qty int64) api.Gate {
	s := api.Spec{Number: 1, Route: 1, Tick: 5, Lot: 10, Band: 100, Limit: 50, First: 1000}
	s.Shifts[3], s.Shifts[9] = 50, -50
	return api.Gate{
		Contract: api.Contract{Spec: s, State: api.Open, Price: 1000},
		Account:  api.Account{Number: 1},
		Q:        20, Buys: 10,
		Buy: buy, Price: price, Qty: qty,
	}
}

// fine is a gate that stops nothing of what a test is not about: each price and quantity is one, the band and the limit are the widest.
func fine(buy bool, price, qty int64) api.Gate {
	g := example(buy, price, qty)
	g.Contract.Spec.Tick, g.Contract.Spec.Lot = 1, 1
	g.Contract.Spec.Band, g.Contract.Spec.Limit = mostPrice, mostPosition
	g.Q, g.Buys = 0, 0
	return g
}

// changed is a gate with something changed.
func changed(g api.Gate, change func(g *api.Gate)) api.Gate {
	change(&g)
	return g
}

// holdCheck: that is what comes of the order at the gate.
func holdCheck(t *testing.T, name string, g api.Gate, want api.Errno) {
	t.Helper()
	if e := gate.Check(g); e != want {
		t.Errorf("%s: Check answers %d, want %d", name, e, want)
	}
}

// holdBoth: the same comes of it whether the order buys or sells.
func holdBoth(t *testing.T, name string, g api.Gate, want api.Errno) {
	t.Helper()
	g.Buy = true
	holdCheck(t, name+", buys", g, want)
	g.Buy = false
	holdCheck(t, name+", sells", g, want)
}

// The chapter's examples.
func TestExamples(t *testing.T) {
	for _, x := range []struct {
		name       string
		buy        bool
		price, qty int64
		want       api.Errno
	}{
		{"buy 20 at 1005", true, 1005, 20, api.OK},
		{"buy 30", true, 1005, 30, api.ErrLimit},
		{"sell 70", false, 1000, 70, api.OK},
		{"sell 80", false, 1000, 80, api.ErrLimit},
		{"sell 15", false, 1000, 15, api.ErrQty},
		{"buy 10 at 1105", true, 1105, 10, api.ErrBand},
		{"buy 10 at 1001", true, 1001, 10, api.ErrPrice},
	} {
		holdCheck(t, x.name, example(x.buy, x.price, x.qty), x.want)
	}
}

// P12.1: nothing stands at a zero gate.
func TestCheckZero(t *testing.T) {
	holdCheck(t, "zero", api.Gate{}, api.ErrArg)
}

// P12.1: the account's flags stop it, and nothing else of it does.
func TestCheckAccount(t *testing.T) {
	for _, x := range []struct {
		name string
		a    api.Account
		want api.Errno
	}{
		{"plain", api.Account{Number: 7, Cash: 5}, api.OK},
		{"without cash", api.Account{Number: 7}, api.OK},
		{"owing", api.Account{Number: 7, Cash: least}, api.OK},
		{"rich", api.Account{Number: math.MaxUint32, Cash: greatest}, api.OK},
		{"the fund", api.Account{}, api.OK},
		{"in default", api.Account{Number: 7, Default: true}, api.ErrDefault},
		{"killed", api.Account{Number: 7, Killed: true}, api.ErrKilled},
		{"both", api.Account{Number: 7, Default: true, Killed: true}, api.ErrDefault},
	} {
		g := fine(true, 1000, 1)
		g.Account = x.a
		holdBoth(t, x.name, g, x.want)
	}
}

// P12.1: an order comes to a contract that is open, and to no state else.
func TestCheckStates(t *testing.T) {
	for state := range 256 {
		want := api.ErrArg
		switch api.ContractState(state) {
		case 1:
			want = api.OK
		case 2:
			want = api.ErrHalted
		case 3:
			want = api.ErrExpired
		}
		g := fine(true, 1000, 1)
		g.Contract.State = api.ContractState(state)
		holdBoth(t, "state", g, want)
	}
}

// P12.1: data that may not be stop it.
func TestCheckData(t *testing.T) {
	for name, change := range map[string]func(s *api.Spec){
		"zero":                 func(s *api.Spec) { *s = api.Spec{} },
		"Number 0":             func(s *api.Spec) { s.Number = 0 },
		"Route 0":              func(s *api.Spec) { s.Route = 0 },
		"Route 9":              func(s *api.Spec) { s.Route = api.MaxRoutes + 1 },
		"Tick 0":               func(s *api.Spec) { s.Tick = 0 },
		"Tick -1":              func(s *api.Spec) { s.Tick = -1 },
		"Tick too great":       func(s *api.Spec) { s.Tick = mostPrice + 1 },
		"Lot 0":                func(s *api.Spec) { s.Lot = 0 },
		"Lot -1":               func(s *api.Spec) { s.Lot = -1 },
		"Lot too great":        func(s *api.Spec) { s.Lot = mostQty + 1 },
		"Band -1":              func(s *api.Spec) { s.Band = -1 },
		"Band too great":       func(s *api.Spec) { s.Band = mostPrice + 1 },
		"Limit 0":              func(s *api.Spec) { s.Limit = 0 },
		"Limit too great":      func(s *api.Spec) { s.Limit = mostPosition + 1 },
		"Limit the greatest":   func(s *api.Spec) { s.Limit = greatest },
		"a Shift too great":    func(s *api.Spec) { s.Shifts[15] = mostPrice + 1 },
		"no Shift up":          func(s *api.Spec) { s.Shifts[3] = 0 },
		"no Shift down":        func(s *api.Spec) { s.Shifts[9] = 0 },
		"Credit -1":            func(s *api.Spec) { s.Credit = -1 },
		"Credit too great":     func(s *api.Spec) { s.Credit = mostPrice + 1 },
		"First 0":              func(s *api.Spec) { s.First = 0 },
		"First too great":      func(s *api.Spec) { s.First = mostPrice + 1 },
		"First between prices": func(s *api.Spec) { s.Tick, s.First = 5, 1001 },
	} {
		g := fine(true, 1000, 1)
		change(&g.Contract.Spec)
		holdBoth(t, name, g, api.ErrArg)
	}
	g := fine(true, 1000, 1)
	g.Contract.Spec.First, g.Contract.Spec.LastDay, g.Contract.Spec.Credit = 1, math.MaxUint32, mostPrice
	holdBoth(t, "other data", g, api.OK)
}

// bound is one of a gate's numbers, and from where to where it may be.
type bound struct {
	name      string
	at        func(g *api.Gate) *int64
	low, high int64
}

// P12.1: the contract's Price, what is open and the position are asked at their bounds, whichever side the order is on.
func TestCheckBounds(t *testing.T) {
	for _, b := range []bound{
		{"Price", func(g *api.Gate) *int64 { return &g.Contract.Price }, 1, mostPrice},
		{"Buys", func(g *api.Gate) *int64 { return &g.Buys }, 0, mostScan},
		{"Sells", func(g *api.Gate) *int64 { return &g.Sells }, 0, mostScan},
		{"q", func(g *api.Gate) *int64 { return &g.Q }, -mostPosition, mostPosition},
	} {
		for _, n := range []int64{b.low - 1, b.high + 1, least, least + 1, greatest, greatest - 1, -mostScan - 1} {
			g := fine(true, 1000, 1)
			*b.at(&g) = n
			holdBoth(t, b.name+" outside", g, api.ErrArg)
		}
		for _, n := range []int64{b.low, b.high} {
			g := fine(true, 1000, 1)
			*b.at(&g) = n
			for _, buy := range []bool{true, false} {
				g.Buy = buy
				if e := gate.Check(g); e != api.OK && e != api.ErrLimit {
					t.Errorf("%s at %d: Check answers %d", b.name, n, e)
				}
			}
		}
	}
}

// P12.1: what counts of the contract is a price of it.
func TestCheckContractPrice(t *testing.T) {
	for price, want := range map[int64]api.Errno{
		1000: api.OK, 995: api.OK, 1005: api.OK, 1001: api.ErrArg, 999: api.ErrArg, 5: api.ErrBand,
		0: api.ErrArg, -5: api.ErrArg, -1000: api.ErrArg, mostPrice: api.ErrBand, mostPrice + 5: api.ErrArg,
	} {
		g := example(true, 1000, 10)
		g.Contract.Price = price
		holdBoth(t, "Price", g, want)
	}
}

// P12.1: an order's quantity is a multiple of Lot, from 1 to MaxQty.
func TestCheckQty(t *testing.T) {
	for qty, want := range map[int64]api.Errno{
		10: api.OK, 20: api.OK, mostQty: api.OK, mostQty - 10: api.OK,
		0: api.ErrQty, -10: api.ErrQty, 1: api.ErrQty, 9: api.ErrQty, 11: api.ErrQty, 15: api.ErrQty,
		mostQty + 10: api.ErrQty, mostQty - 1: api.ErrQty, mostPosition: api.ErrQty, least: api.ErrQty, greatest: api.ErrQty, -mostQty: api.ErrQty,
	} {
		g := fine(true, 1000, qty)
		g.Contract.Spec.Lot = 10
		holdBoth(t, "Qty", g, want)
	}
}

// P12.1: an order's price is a multiple of Tick, from 1 to MaxPrice.
func TestCheckPrice(t *testing.T) {
	for price, want := range map[int64]api.Errno{
		5: api.OK, 10: api.OK, 1000: api.OK, mostPrice: api.OK, mostPrice - 5: api.OK,
		0: api.ErrPrice, -5: api.ErrPrice, 1: api.ErrPrice, 4: api.ErrPrice, 6: api.ErrPrice, 1001: api.ErrPrice,
		mostPrice + 5: api.ErrPrice, mostPrice - 1: api.ErrPrice, least: api.ErrPrice, greatest: api.ErrPrice, -1000: api.ErrPrice,
	} {
		g := fine(true, price, 1)
		g.Contract.Spec.Tick = 5
		holdBoth(t, "Price", g, want)
	}
}

// P12.1: an order's price is at most Band away from the Price that counts, on either side; not from First.
func TestCheckBand(t *testing.T) {
	for _, x := range []struct {
		name            string
		band, at, price int64
		want            api.Errno
	}{
		{"alike", 0, 1000, 1000, api.OK},
		{"a tick above no band", 0, 1000, 1005, api.ErrBand},
		{"a tick below no band", 0, 1000, 995, api.ErrBand},
		{"at the upper edge", 100, 1000, 1100, api.OK},
		{"above it", 100, 1000, 1105, api.ErrBand},
		{"at the lower edge", 100, 1000, 900, api.OK},
		{"below it", 100, 1000, 895, api.ErrBand},
		{"a band between ticks", 104, 1000, 1100, api.OK},
		{"above one between ticks", 104, 1000, 1105, api.ErrBand},
		{"around a Price that was published", 100, 2000, 2100, api.OK},
		{"around First alone", 100, 2000, 1000, api.ErrBand},
		{"from end to end", mostPrice, 5, mostPrice, api.OK},
		{"from end to end, less", mostPrice - 5, 5, mostPrice, api.OK},
		{"from end to end, still less", mostPrice - 6, 5, mostPrice, api.ErrBand},
		{"back from end to end", mostPrice - 6, mostPrice, 5, api.ErrBand},
	} {
		g := fine(true, x.price, 1)
		g.Contract.Spec.Tick, g.Contract.Spec.Band, g.Contract.Price = 5, x.band, x.at
		holdBoth(t, x.name, g, x.want)
	}
}

// P12.1: the position at worst is held against Limit on the order's own side, with all that is open there, and nothing of the other side.
func TestCheckLimit(t *testing.T) {
	for _, x := range []struct {
		name              string
		q, own, other     int64
		qty, limit        int64
		want              api.Errno
		wantFromOtherSide api.Errno
	}{
		{"at the limit", 0, 0, 0, 50, 50, api.OK, api.OK},
		{"one more", 0, 0, 0, 51, 50, api.ErrLimit, api.ErrLimit},
		{"what is held counts", 20, 0, 0, 30, 50, api.OK, api.OK},
		{"one more than is held", 20, 0, 0, 31, 50, api.ErrLimit, api.OK},
		{"what is open counts", 0, 20, 0, 30, 50, api.OK, api.OK},
		{"one more than is open", 0, 20, 0, 31, 50, api.ErrLimit, api.OK},
		{"both count", 20, 20, 0, 10, 50, api.OK, api.OK},
		{"one more than both", 20, 20, 0, 11, 50, api.ErrLimit, api.OK},
		{"held the other way", -20, 0, 0, 70, 50, api.OK, api.ErrLimit},
		{"one more, held the other way", -20, 0, 0, 71, 50, api.ErrLimit, api.ErrLimit},
		{"open the other way", 0, 0, 1000, 50, 50, api.OK, api.ErrLimit},
		{"one more, open the other way", 0, 0, 1000, 51, 50, api.ErrLimit, api.ErrLimit},
		{"at the limit already", 50, 0, 0, 1, 50, api.ErrLimit, api.OK},
		{"at the other limit already", -50, 0, 0, 100, 50, api.OK, api.ErrLimit},
		{"beyond the limit already", 60, 0, 0, 1, 50, api.ErrLimit, api.OK},
		{"back, but beyond still", -60, 0, 0, 1, 50, api.OK, api.ErrLimit},
		{"the least limit", 0, 0, 0, 1, 1, api.OK, api.OK},
		{"more than the least limit", 0, 0, 0, 2, 1, api.ErrLimit, api.ErrLimit},
		{"the greatest numbers", mostPosition, mostScan, mostScan, mostQty, mostPosition, api.ErrLimit, api.ErrLimit},
		{"the greatest numbers of the other side", -mostPosition, 0, mostScan, mostQty, mostPosition, api.OK, api.ErrLimit},
		{"the greatest limit", mostPosition - mostQty, 0, 0, mostQty, mostPosition, api.OK, api.OK},
		{"one beyond the greatest limit", mostPosition - mostQty + 1, 0, 0, mostQty, mostPosition, api.ErrLimit, api.OK},
	} {
		g := fine(true, 1000, x.qty)
		g.Contract.Spec.Limit = x.limit
		g.Q, g.Buys, g.Sells = x.q, x.own, x.other
		holdCheck(t, x.name+", buys", g, x.want)
		holdCheck(t, x.name+", sells instead", turned(g, false), x.wantFromOtherSide)
		mirror := g
		mirror.Q, mirror.Buys, mirror.Sells = -g.Q, g.Sells, g.Buys
		holdCheck(t, x.name+", the other way round", turned(mirror, false), x.want)
		holdCheck(t, x.name+", the other way round, buys instead", mirror, x.wantFromOtherSide)
	}
}

// turned is the gate with an order that buys or sells.
func turned(g api.Gate, buy bool) api.Gate {
	g.Buy = buy
	return g
}

// fault is something wrong with the chapter's gate, that leaves all else as it was.
type fault struct {
	name   string
	change func(g *api.Gate)
	want   api.Errno
}

// faults stand in the words' order.
func faults() []fault {
	return []fault{
		{"in default", func(g *api.Gate) { g.Account.Default = true }, api.ErrDefault},
		{"killed", func(g *api.Gate) { g.Account.Killed = true }, api.ErrKilled},
		{"expired", func(g *api.Gate) { g.Contract.State = api.Expired }, api.ErrExpired},
		{"data", func(g *api.Gate) { g.Contract.Spec.Number = 0 }, api.ErrArg},
		{"quantity", func(g *api.Gate) { g.Qty += 5 }, api.ErrQty},
		{"price", func(g *api.Gate) { g.Price++ }, api.ErrPrice},
		{"band", func(g *api.Gate) { g.Price += 500 }, api.ErrBand},
		{"limit", func(g *api.Gate) { g.Buys, g.Sells = 1000, 1000 }, api.ErrLimit},
	}
}

// holdOrder: of all of these that are so together, the first one is told.
func holdOrder(t *testing.T, l []fault) {
	t.Helper()
	for set := range 1 << len(l) {
		g, want, name := example(true, 1005, 20), api.OK, "together"
		for i := len(l) - 1; i >= 0; i-- {
			if set>>i&1 == 1 {
				l[i].change(&g)
				want, name = l[i].want, l[i].name+", "+name
			}
		}
		holdBoth(t, name, g, want)
	}
}

// P12.1: of several reasons the first one is told.
func TestCheckOrder(t *testing.T) {
	holdOrder(t, faults())
}

// P12.1: a halted contract and one in no state stand where an expired one does, and each number that may not be where the data do.
func TestCheckOrderOfStates(t *testing.T) {
	states := []fault{
		{"halted", func(g *api.Gate) { g.Contract.State = api.Halted }, api.ErrHalted},
		{"state 0", func(g *api.Gate) { g.Contract.State = 0 }, api.ErrArg},
		{"state 4", func(g *api.Gate) { g.Contract.State = 4 }, api.ErrArg},
	}
	numbers := []fault{
		{"no First", func(g *api.Gate) { g.Contract.Spec.First++ }, api.ErrArg},
		{"no Price", func(g *api.Gate) { g.Contract.Price++ }, api.ErrArg},
		{"Buys -1", func(g *api.Gate) { g.Buys = -1 }, api.ErrArg},
		{"Sells -1", func(g *api.Gate) { g.Sells = -1 }, api.ErrArg},
		{"Buys too great", func(g *api.Gate) { g.Buys = mostScan + 1 }, api.ErrArg},
		{"Sells too great", func(g *api.Gate) { g.Sells = mostScan + 1 }, api.ErrArg},
		{"q too great", func(g *api.Gate) { g.Q = mostPosition + 1 }, api.ErrArg},
		{"q too low", func(g *api.Gate) { g.Q = -mostPosition - 1 }, api.ErrArg},
	}
	for _, state := range states {
		l := faults()
		l[2] = state
		holdOrder(t, l)
	}
	for _, number := range numbers {
		l := faults()
		l[3] = number
		holdOrder(t, l)
	}
}

// P12.1: numbers that stand at the ends of their kind wrap nowhere.
func TestCheckEnds(t *testing.T) {
	for _, n := range []int64{least, least + 1, greatest - 1, greatest} {
		for name, x := range map[string]fault{
			"Buys":  {"", func(g *api.Gate) { g.Buys = n }, api.ErrArg},
			"Sells": {"", func(g *api.Gate) { g.Sells = n }, api.ErrArg},
			"q":     {"", func(g *api.Gate) { g.Q = n }, api.ErrArg},
			"all":   {"", func(g *api.Gate) { g.Buys, g.Sells, g.Q, g.Price, g.Qty = n, n, n, n, n }, api.ErrArg},
			"Limit": {"", func(g *api.Gate) { g.Contract.Spec.Limit = n }, api.ErrArg},
			"Band":  {"", func(g *api.Gate) { g.Contract.Spec.Band = n }, api.ErrArg},
			"Qty":   {"", func(g *api.Gate) { g.Qty = n }, api.ErrQty},
			"Price": {"", func(g *api.Gate) { g.Price = n }, api.ErrPrice},
		} {
			holdBoth(t, name, changed(fine(true, 1000, 1), x.change), x.want)
		}
	}
}

// P12.2: each account may cancel, whatever it is, and the fund is none.
func TestCheckCancel(t *testing.T) {
	for _, x := range []struct {
		name string
		a    api.Account
		want api.Errno
	}{
		{"zero", api.Account{}, api.ErrArg},
		{"0 with cash", api.Account{Cash: 5}, api.ErrArg},
		{"0 in default", api.Account{Default: true}, api.ErrArg},
		{"0 killed", api.Account{Killed: true}, api.ErrArg},
		{"1", api.Account{Number: 1}, api.OK},
		{"in default", api.Account{Number: 1, Default: true}, api.OK},
		{"killed", api.Account{Number: 1, Killed: true}, api.OK},
		{"both", api.Account{Number: 1, Killed: true, Default: true}, api.OK},
		{"owing", api.Account{Number: 1, Cash: least}, api.OK},
		{"last", api.Account{Number: math.MaxUint32, Cash: greatest}, api.OK},
	} {
		if e := gate.CheckCancel(x.a); e != x.want {
			t.Errorf("%s: CheckCancel answers %d, want %d", x.name, e, x.want)
		}
	}
}
