package expose_test

import (
	"math"
	"slices"
	"testing"

	"broadside/api"
	"broadside/expose"
)

const (
	least        = math.MinInt64
	greatest     = math.MaxInt64
	mostPrice    = int64(10_000_000)
	mostQty      = int64(1_000_000)
	mostPosition = int64(10_000_000)
	mostBasis    = int64(1_000_000_000_000_000)
	mostMoney    = int64(100_000_000_000_000_000)
)

// buy and sell are orders.
func buy(price, left int64) api.Order {
	return api.Order{Number: 1, Account: 1, Buy: true, Price: price, Left: left}
}

func sell(price, left int64) api.Order {
	return api.Order{Number: 1, Account: 1, Price: price, Left: left}
}

// stake is one in a contract with the chapter's shifts, at the Price 10, whose basis is what it is worth.
func stake(number uint32, q int64, orders ...api.Order) api.Stake {
	s := api.Spec{Number: number, Route: 1, Tick: 1, Lot: 1, Limit: 1, First: 1}
	s.Shifts[3], s.Shifts[12] = 50, -40
	return api.Stake{Leg: api.Leg{Spec: s, Q: q}, Basis: 10 * q, Price: 10, Orders: orders}
}

// widest is a stake whose contract's shifts are as great as may be, at a price.
func widest(number uint32, q, basis, price int64, orders ...api.Order) api.Stake {
	s := stake(number, q, orders...)
	s.Leg.Spec.Shifts[3], s.Leg.Spec.Shifts[12] = mostPrice, -mostPrice
	s.Basis, s.Price = basis, price
	return s
}

// many are so many stakes by rising numbers, each of a quantity of 1 with an order.
func many(n int) []api.Stake {
	var l []api.Stake
	for i := range n {
		l = append(l, stake(uint32(i+1), 1, buy(10, 2)))
	}
	return l
}

// changed is a stake with something changed.
func changed(s api.Stake, change func(s *api.Stake)) api.Stake {
	s.Orders = slices.Clone(s.Orders)
	change(&s)
	return s
}

// cloned are stakes that share nothing with l.
func cloned(l []api.Stake) []api.Stake {
	l = slices.Clone(l)
	for i := range l {
		l[i].Orders = slices.Clone(l[i].Orders)
	}
	return l
}

func alike(a, b api.Stake) bool {
	return a.Leg == b.Leg && a.Basis == b.Basis && a.Price == b.Price && slices.Equal(a.Orders, b.Orders)
}

// holdNeed: that is what the stakes need; they stay as they are.
func holdNeed(t *testing.T, name string, l []api.Stake, want api.Need, wantE api.Errno) {
	t.Helper()
	before := cloned(l)
	if n, e := expose.Need(l); n != want || e != wantE {
		t.Errorf("%s: Need answers %+v, error %d; want %+v, error %d", name, n, e, want, wantE)
	}
	if !slices.EqualFunc(l, before, alike) {
		t.Errorf("%s: Need writes to its stakes", name)
	}
}

// holdFault: the stakes are refused, and nothing else is answered.
func holdFault(t *testing.T, name string, l []api.Stake, want api.Errno) {
	t.Helper()
	holdNeed(t, name, l, api.Need{}, want)
}

// The chapter's examples.
func TestExamples(t *testing.T) {
	s := stake(1, 2, buy(12, 3), sell(9, 1))
	s.Basis = 20
	holdNeed(t, "example", []api.Stake{s}, api.Need{M: 80, W: 120 + 6 + 1}, api.OK)
	s.Basis = 33
	holdNeed(t, "of basis 33", []api.Stake{s}, api.Need{M: 80, W: 127, U: 13}, api.OK)
}

// P11.1: who has nothing needs nothing.
func TestNeedOfNone(t *testing.T) {
	holdNeed(t, "nil", nil, api.Need{}, api.OK)
	holdNeed(t, "empty", []api.Stake{}, api.Need{}, api.OK)
	holdNeed(t, "nothing held", []api.Stake{stake(1, 0)}, api.Need{}, api.OK)
	s := stake(1, 0)
	s.Orders = []api.Order{}
	holdNeed(t, "nothing held, an empty list", []api.Stake{s}, api.Need{}, api.OK)
}

// P11.1: the worse side counts, wholly filled, over what is held; never both sides, nor less than 0.
func TestWorstSide(t *testing.T) {
	for _, x := range []struct {
		name   string
		q      int64
		orders []api.Order
		m, w   int64
	}{
		{"buys alone", 0, []api.Order{buy(10, 3)}, 0, 120},
		{"sells alone", 0, []api.Order{sell(10, 3)}, 0, 150},
		{"both, sells worse", 0, []api.Order{buy(10, 3), sell(10, 3)}, 0, 150},
		{"both, buys worse", 0, []api.Order{buy(10, 4), sell(10, 3)}, 0, 160},
		{"both alike", 0, []api.Order{buy(10, 5), sell(10, 4)}, 0, 200},
		{"all that buy", 0, []api.Order{buy(10, 1), sell(10, 1), buy(9, 2), buy(8, 3)}, 0, 240},
		{"all that sell", 0, []api.Order{sell(10, 1), buy(10, 1), sell(11, 2), sell(12, 3)}, 0, 300},
		{"bought, buys more", 7, []api.Order{buy(10, 1)}, 280, 40},
		{"bought, sells a part", 7, []api.Order{sell(10, 3)}, 280, 0},
		{"bought, sells all", 7, []api.Order{sell(10, 7)}, 280, 0},
		{"bought, sells beyond, less than was", 7, []api.Order{sell(10, 12)}, 280, 0},
		{"bought, sells beyond, more than was", 7, []api.Order{sell(10, 13)}, 280, 20},
		{"bought, both", 7, []api.Order{sell(10, 13), buy(10, 1)}, 280, 40},
		{"sold, sells more", -7, []api.Order{sell(10, 1)}, 350, 50},
		{"sold, buys a part", -7, []api.Order{buy(10, 3)}, 350, 0},
		{"sold, buys all", -7, []api.Order{buy(10, 7)}, 350, 0},
		{"sold, buys beyond, less than was", -7, []api.Order{buy(10, 15)}, 350, 0},
		{"sold, buys beyond, more than was", -7, []api.Order{buy(10, 16)}, 350, 10},
		{"sold, both", -7, []api.Order{buy(10, 16), sell(10, 1)}, 350, 50},
	} {
		l := []api.Stake{stake(1, x.q, x.orders...)}
		holdNeed(t, x.name, l, api.Need{M: x.m, W: x.w}, api.OK)
		slices.Reverse(l[0].Orders)
		holdNeed(t, x.name+", turned round", l, api.Need{M: x.m, W: x.w}, api.OK)
	}
}

// P11.1: each order's price counts by how much it is worse, and not if it is better; on both sides together.
func TestWorsePrices(t *testing.T) {
	for _, x := range []struct {
		name   string
		orders []api.Order
		w      int64
	}{
		{"a buyer's at it", []api.Order{buy(10, 3)}, 120},
		{"a buyer's above", []api.Order{buy(11, 3)}, 120 + 3},
		{"a buyer's far above", []api.Order{buy(mostPrice, 3)}, 120 + 3*(mostPrice-10)},
		{"a buyer's below", []api.Order{buy(9, 3)}, 120},
		{"a buyer's far below", []api.Order{buy(1, 3)}, 120},
		{"a seller's at it", []api.Order{sell(10, 3)}, 150},
		{"a seller's below", []api.Order{sell(9, 3)}, 150 + 3},
		{"a seller's far below", []api.Order{sell(1, 3)}, 150 + 27},
		{"a seller's above", []api.Order{sell(11, 3)}, 150},
		{"a seller's far above", []api.Order{sell(mostPrice, 3)}, 150},
		{"both worse, each", []api.Order{buy(12, 3), sell(7, 5)}, 250 + 6 + 15},
		{"a better one takes nothing off", []api.Order{buy(12, 3), buy(5, 2), sell(7, 4), sell(20, 1)}, 250 + 6 + 12},
		{"each order by itself", []api.Order{buy(11, 1), buy(12, 2), buy(13, 3)}, 240 + 1 + 4 + 9},
	} {
		holdNeed(t, x.name, []api.Stake{stake(1, 0, x.orders...)}, api.Need{W: x.w}, api.OK)
	}
}

// P11.1: prices count also where what is held has the worse side cost nothing.
func TestWorsePricesOfWhatCloses(t *testing.T) {
	holdNeed(t, "bought, sells below", []api.Stake{stake(1, 7, sell(8, 3))}, api.Need{M: 280, W: 6}, api.OK)
	holdNeed(t, "sold, buys above", []api.Stake{stake(1, -7, buy(13, 3))}, api.Need{M: 350, W: 9}, api.OK)
}

// P11.1: each stake's worst case is its own; what they are is added up, at each one's Price and shifts.
func TestWorstCasesTogether(t *testing.T) {
	second := stake(2, -3, buy(10, 1), sell(10, 2))
	second.Leg.Spec.Shifts[0], second.Price, second.Basis = 60, 11, -33
	l := []api.Stake{stake(1, 0, buy(11, 4)), second, stake(3, 5, sell(9, 1))}
	holdNeed(t, "three", l, api.Need{M: 180 + 200, W: 160 + 4 + 120 + 2 + 1}, api.OK)
	slices.Reverse(l)
	holdNeed(t, "three, turned round", l, api.Need{M: 180 + 200, W: 160 + 4 + 120 + 2 + 1}, api.OK)
}

// P11.1: M is the margin of all legs together, with their routes' credits; no order counts there.
func TestMarginOfLegs(t *testing.T) {
	long, short := stake(1, 3, sell(10, 1)), stake(2, -3, buy(10, 1))
	long.Leg.Spec.Credit, short.Leg.Spec.Credit = 30, 20
	holdNeed(t, "a spread", []api.Stake{long, short}, api.Need{M: 120 + 150 - 60}, api.OK)
	short.Leg.Spec.Route = 8
	holdNeed(t, "two routes", []api.Stake{long, short}, api.Need{M: 120 + 150}, api.OK)
	short.Leg.Spec.Route, short.Leg.Q, short.Basis = 1, 0, 0
	holdNeed(t, "what is not held", []api.Stake{long, short}, api.Need{M: 120, W: 40}, api.OK)
}

// P11.1: what marking takes is of all stakes together: one's winnings count against another one's losses, and never below 0.
func TestMarking(t *testing.T) {
	of := func(bases ...int64) []api.Stake {
		var l []api.Stake
		for i, basis := range bases {
			s := stake(uint32(i+1), 0)
			s.Basis = basis
			l = append(l, s)
		}
		return l
	}
	for _, x := range []struct {
		name  string
		bases []int64
		u     int64
	}{
		{"a loss", []int64{7}, 7}, {"a win", []int64{-7}, 0}, {"neither", []int64{0}, 0},
		{"a win behind", []int64{7, -5}, 2}, {"a win ahead", []int64{-5, 7}, 2},
		{"wins that are more", []int64{7, -8}, 0}, {"as much", []int64{-7, 7}, 0},
		{"several", []int64{5, -3, 5, -3, 5}, 9}, {"losses ahead", []int64{7, 7, -20}, 0},
		{"the greatest", []int64{mostBasis, mostBasis}, 2 * mostBasis}, {"both ends", []int64{-mostBasis, 1, mostBasis}, 1},
	} {
		holdNeed(t, x.name, of(x.bases...), api.Need{U: x.u}, api.OK)
	}
	for _, x := range [][3]int64{{3, 31, 1}, {3, 30, 0}, {3, 29, 0}, {3, 0, 0}, {-3, -30, 0}, {-3, -29, 1}, {-3, -31, 0}, {-3, 0, 30}, {-3, 5, 35}, {3, -5, 0}} {
		s := stake(1, x[0], buy(10_000, 1))
		s.Basis = x[1]
		n, e := expose.Need([]api.Stake{s})
		if n.U != x[2] || e != api.OK {
			t.Errorf("q %d, basis %d: U %d, error %d", x[0], x[1], n.U, e)
		}
	}
}

// P11.1: sixteen stakes, and no more; more are ErrLong, whatever else they are.
func TestNeedLong(t *testing.T) {
	holdNeed(t, "fifteen", many(15), api.Need{M: 15 * 40, W: 15 * 80}, api.OK)
	holdNeed(t, "sixteen", many(16), api.Need{M: 16 * 40, W: 16 * 80}, api.OK)
	for _, n := range []int{17, 18, 32, 100} {
		l := many(n)
		holdFault(t, "more", l, api.ErrLong)
		l[n-1].Leg.Spec.Number = 1
		holdFault(t, "more, two of one number", l, api.ErrLong)
		l[0].Price = 0
		holdFault(t, "more, one that may not be", l, api.ErrLong)
		holdFault(t, "more, none of which may be", make([]api.Stake, n), api.ErrLong)
	}
}

// bad are stakes that may not be, all of the contract 3.
func bad() map[string]api.Stake {
	l := map[string]api.Stake{}
	for name, change := range map[string]func(s *api.Stake){
		"Route 0":             func(s *api.Stake) { s.Leg.Spec.Route = 0 },
		"Route 9":             func(s *api.Stake) { s.Leg.Spec.Route = 9 },
		"Tick 0":              func(s *api.Stake) { s.Leg.Spec.Tick = 0 },
		"Lot 0":               func(s *api.Stake) { s.Leg.Spec.Lot = 0 },
		"Band below":          func(s *api.Stake) { s.Leg.Spec.Band = -1 },
		"Limit 0":             func(s *api.Stake) { s.Leg.Spec.Limit = 0 },
		"none up":             func(s *api.Stake) { s.Leg.Spec.Shifts[3] = 0 },
		"Shift least":         func(s *api.Stake) { s.Leg.Spec.Shifts[0] = least },
		"Credit above":        func(s *api.Stake) { s.Leg.Spec.Credit = mostPrice + 1 },
		"First 0":             func(s *api.Stake) { s.Leg.Spec.First = 0 },
		"q above":             func(s *api.Stake) { s.Leg.Q = mostPosition + 1 },
		"q below":             func(s *api.Stake) { s.Leg.Q = -mostPosition - 1 },
		"q least":             func(s *api.Stake) { s.Leg.Q = least },
		"q greatest":          func(s *api.Stake) { s.Leg.Q = greatest },
		"Basis above":         func(s *api.Stake) { s.Basis = mostBasis + 1 },
		"Basis below":         func(s *api.Stake) { s.Basis = -mostBasis - 1 },
		"Basis least":         func(s *api.Stake) { s.Basis = least },
		"Basis greatest":      func(s *api.Stake) { s.Basis = greatest },
		"Price 0":             func(s *api.Stake) { s.Price = 0 },
		"Price below":         func(s *api.Stake) { s.Price = -10 },
		"Price above":         func(s *api.Stake) { s.Price = mostPrice + 1 },
		"Price least":         func(s *api.Stake) { s.Price = least },
		"Price greatest":      func(s *api.Stake) { s.Price = greatest },
		"Price between ticks": func(s *api.Stake) { s.Leg.Spec.Tick, s.Leg.Spec.First = 4, 4 },
		"orders 251":          func(s *api.Stake) { s.Orders = slices.Repeat([]api.Order{buy(10, 1)}, 251) },
		"orders 5000":         func(s *api.Stake) { s.Orders = slices.Repeat([]api.Order{buy(10, 1), sell(10, 1)}, 2500) },
		"orders 251, zero":    func(s *api.Stake) { s.Orders = make([]api.Order, 251) },
	} {
		l[name] = changed(stake(3, 1, buy(10, 2), sell(10, 2), buy(9, 1)), change)
	}
	return l
}

// badOrders are orders that may not be.
func badOrders() map[string]api.Order {
	l := map[string]api.Order{"zero": {}}
	for name, change := range map[string]func(o *api.Order){
		"Number 0":       func(o *api.Order) { o.Number = 0 },
		"Account 0":      func(o *api.Order) { o.Account = 0 },
		"Price 0":        func(o *api.Order) { o.Price = 0 },
		"Price below":    func(o *api.Order) { o.Price = -1 },
		"Price above":    func(o *api.Order) { o.Price = mostPrice + 1 },
		"Price least":    func(o *api.Order) { o.Price = least },
		"Price greatest": func(o *api.Order) { o.Price = greatest },
		"Left 0":         func(o *api.Order) { o.Left = 0 },
		"Left below":     func(o *api.Order) { o.Left = -1 },
		"Left above":     func(o *api.Order) { o.Left = mostQty + 1 },
		"Left least":     func(o *api.Order) { o.Left = least },
		"Left greatest":  func(o *api.Order) { o.Left = greatest },
	} {
		for _, o := range []api.Order{buy(10, 2), sell(10, 2)} {
			change(&o)
			l[map[bool]string{true: "bought, ", false: "sold, "}[o.Buy]+name] = o
		}
	}
	return l
}

// P11.1: a stake that may not be, alone and wherever it stands, ahead of two of one number.
func TestNeedArg(t *testing.T) {
	holdFault(t, "zero", []api.Stake{{}}, api.ErrArg)
	holdFault(t, "two zero ones", []api.Stake{{}, {}}, api.ErrArg)
	holdFault(t, "Number 0", []api.Stake{stake(1, 1), stake(0, 1)}, api.ErrArg)
	for name, s := range bad() {
		holdFault(t, name, []api.Stake{s}, api.ErrArg)
		for i := range 16 {
			l := many(16)
			l[i] = s
			l[i].Leg.Spec.Number = uint32(i + 1)
			holdFault(t, name+" among others", l, api.ErrArg)
		}
		holdFault(t, name+" ahead of two of one number", []api.Stake{s, stake(5, 1), stake(5, 1)}, api.ErrArg)
		holdFault(t, name+" behind two of one number", []api.Stake{stake(5, 1), stake(5, 1), s}, api.ErrArg)
		holdFault(t, name+" of a number that is there", []api.Stake{stake(3, 1), s}, api.ErrArg)
	}
}

// P11.1: an order that may not be, wherever it stands, in any stake.
func TestNeedArgOfOrders(t *testing.T) {
	for name, o := range badOrders() {
		holdFault(t, name, []api.Stake{stake(1, 0, o)}, api.ErrArg)
		for i := range 250 {
			orders := slices.Repeat([]api.Order{buy(10, 1), sell(10, 1)}, 125)
			orders[i] = o
			holdFault(t, name+" among others", []api.Stake{stake(1, 2, orders...)}, api.ErrArg)
		}
		for i := range 16 {
			l := many(16)
			l[i].Orders = append(l[i].Orders, o)
			holdFault(t, name+" of one of many", l, api.ErrArg)
			l[15-i].Leg.Spec.Number = l[i].Leg.Spec.Number
			holdFault(t, name+" and two of one number", l, api.ErrArg)
		}
	}
}

// P11.1: each number up to its bounds.
func TestNeedBounds(t *testing.T) {
	for _, q := range []int64{mostPosition, -mostPosition} {
		holdNeed(t, "q", []api.Stake{stake(1, q)}, api.Need{M: max(-50*q, 40*q)}, api.OK)
	}
	for _, basis := range []int64{mostBasis, -mostBasis, mostBasis - 1} {
		s := stake(1, 0)
		s.Basis = basis
		holdNeed(t, "basis", []api.Stake{s}, api.Need{U: max(basis, 0)}, api.OK)
	}
	for _, price := range []int64{1, 2, mostPrice - 1, mostPrice} {
		s := stake(1, 0, buy(price, 1), sell(price, 1))
		s.Price = price
		holdNeed(t, "Price", []api.Stake{s}, api.Need{W: 50}, api.OK)
	}
	s := stake(1, 0)
	s.Leg.Spec.Tick, s.Leg.Spec.First, s.Price = 4, 4, 12
	holdNeed(t, "Price of a tick", []api.Stake{s}, api.Need{}, api.OK)
	for _, o := range []api.Order{buy(1, 1), buy(10, 1), buy(10, mostQty)} {
		holdNeed(t, "order", []api.Stake{stake(1, 0, o)}, api.Need{W: 40 * o.Left}, api.OK)
	}
	for _, n := range []int64{249, 250} {
		orders := slices.Repeat([]api.Order{sell(10, mostQty)}, int(n))
		holdNeed(t, "orders", []api.Stake{stake(1, 0, orders...)}, api.Need{W: 50 * n * mostQty}, api.OK)
	}
}

// P11.1: of an order nothing is asked but what layer 6 asks: bids of an odd quantity, between ticks, of any account, are taken.
func TestNeedAsksNoMoreOfOrders(t *testing.T) {
	s := stake(1, 0, buy(11, 3), buy(11, 3), api.Order{Number: math.MaxUint64, Account: math.MaxUint32, Buy: true, Price: 9, Left: 1})
	s.Leg.Spec.Tick, s.Leg.Spec.Lot, s.Leg.Spec.First = 10, 100, 10
	holdNeed(t, "odd ones", []api.Stake{s}, api.Need{W: 7*40 + 6}, api.OK)
}

// P11.1: two stakes of one number are refused wherever they stand, whatever else they are.
func TestNeedTwice(t *testing.T) {
	for i := range 16 {
		for j := range i {
			l := many(16)
			l[i].Leg.Spec.Number = l[j].Leg.Spec.Number
			holdFault(t, "two", l, api.ErrTwice)
		}
	}
	other := stake(7, -5, sell(9, 1))
	other.Leg.Spec.Route, other.Leg.Spec.Credit, other.Price = 2, 5, 20
	holdFault(t, "two that are unlike", []api.Stake{stake(7, 1), other}, api.ErrTwice)
	holdFault(t, "two without anything", []api.Stake{stake(7, 0), stake(7, 0)}, api.ErrTwice)
	holdNeed(t, "the greatest numbers", []api.Stake{stake(math.MaxUint32, 0), stake(math.MaxUint32-1, 0), stake(1<<31, 0)}, api.Need{}, api.OK)
}

// P11.2: the greatest that stakes may need is told as it is, and within MaxMoney.
func TestGreatest(t *testing.T) {
	orders := slices.Repeat([]api.Order{sell(1, mostQty)}, 250)
	var l []api.Stake
	for i := range uint32(16) {
		l = append(l, widest(i+1, -mostPosition, mostBasis, mostPrice, orders...))
	}
	want := api.Need{
		M: 16 * mostPosition * mostPrice,
		W: 16 * 250 * mostQty * (mostPrice + mostPrice - 1),
		U: 16 * (mostBasis + mostPosition*mostPrice),
	}
	holdNeed(t, "the greatest, sold", l, want, api.OK)
	if total := expose.Total(want); total != want.M+want.W+want.U || total > mostMoney || mostMoney != api.MaxMoney {
		t.Errorf("Total is %d", total)
	}
	orders = slices.Repeat([]api.Order{buy(mostPrice, mostQty)}, 250)
	for i := range l {
		l[i] = widest(uint32(i+1), mostPosition, mostBasis, 1, orders...)
	}
	want.U = 16 * (mostBasis - mostPosition)
	holdNeed(t, "the greatest, bought", l, want, api.OK)
}
