package side_test

import (
	"math"
	"slices"
	"testing"

	"broadside/api"
	"broadside/side"
)

const (
	least    = math.MinInt64
	greatest = math.MaxInt64
)

// order is one that buys, or sells, of the account with its own number.
func order(buy bool, number uint64, price, left int64) api.Order {
	return api.Order{Number: number, Account: uint32(number), Buy: buy, Price: price, Left: left}
}

// of is the order, of that account.
func of(o api.Order, account uint32) api.Order {
	o.Account = account
	return o
}

// leaving is the order, with that left.
func leaving(o api.Order, left int64) api.Order {
	o.Left = left
	return o
}

// added is a new side with these orders, which come one after the other.
func added(t *testing.T, buy bool, l ...api.Order) *side.Side {
	t.Helper()
	s := side.New(buy)
	for _, o := range l {
		hold(t, "Add", s.Add(o), api.OK)
	}
	return s
}

func hold(t *testing.T, name string, got, want api.Errno) {
	t.Helper()
	if got != want {
		t.Errorf("%s: error %d, want %d", name, got, want)
	}
}

// holdAll: the side has these orders, whole, in their order.
func holdAll(t *testing.T, name string, s *side.Side, want ...api.Order) {
	t.Helper()
	if got := slices.Collect(s.All()); !slices.Equal(got, want) {
		t.Errorf("%s: the orders %v, want %v", name, got, want)
	}
	if s.Len() != len(want) {
		t.Errorf("%s: Len %d, want %d", name, s.Len(), len(want))
	}
	var first api.Order
	if len(want) > 0 {
		first = want[0]
	}
	if got, there := s.Best(); got != first || there != (len(want) > 0) {
		t.Errorf("%s: Best %v, %v; want %v", name, got, there, first)
	}
}

// holdTold: a call told that order, or that error and the zero order.
func holdTold(t *testing.T, name string, got api.Order, e api.Errno, want api.Order, wantE api.Errno) {
	t.Helper()
	if got != want || e != wantE {
		t.Errorf("%s: %v, error %d; want %v, error %d", name, got, e, want, wantE)
	}
}

func holdFill(t *testing.T, s *side.Side, n int64, want api.Order, wantE api.Errno) {
	t.Helper()
	got, e := s.Fill(n)
	holdTold(t, "Fill", got, e, want, wantE)
}

func holdDrop(t *testing.T, s *side.Side, number uint64, want api.Order, wantE api.Errno) {
	t.Helper()
	got, e := s.Drop(number)
	holdTold(t, "Drop", got, e, want, wantE)
}

func holdGet(t *testing.T, s *side.Side, number uint64, want api.Order, wantE api.Errno) {
	t.Helper()
	got, e := s.Get(number)
	holdTold(t, "Get", got, e, want, wantE)
}

func holdReach(t *testing.T, s *side.Side, price int64, not uint32, want int64) {
	t.Helper()
	if got := s.Reach(price, not); got != want {
		t.Errorf("Reach(%d, %d): %d, want %d", price, not, got, want)
	}
}

// sample are the chapter's orders, on a side that buys or sells.
func sample(buy bool) []api.Order {
	return []api.Order{order(buy, 1, 10, 5), order(buy, 2, 12, 5), order(buy, 3, 10, 5), order(buy, 4, 12, 5)}
}

// The chapter's examples.
func TestExamples(t *testing.T) {
	l := sample(true)
	s := added(t, true, l...)
	holdAll(t, "All", s, l[1], l[3], l[0], l[2])
	holdReach(t, s, 12, 0, 10)
	holdReach(t, s, 10, 4, 15)
	holdReach(t, s, 13, 0, 0)
	holdFill(t, s, 5, leaving(l[1], 0), api.OK)
	holdAll(t, "Fill", s, l[3], l[0], l[2])
	holdFill(t, s, 6, api.Order{}, api.ErrArg)
	hold(t, "Lower(1, 2)", s.Lower(1, 2), api.OK)
	holdAll(t, "Lower", s, l[3], leaving(l[0], 2), l[2])
	hold(t, "Lower(3, 6)", s.Lower(3, 6), api.ErrArg)
	holdAll(t, "Lower refused", s, l[3], leaving(l[0], 2), l[2])
}

// P6.1: an order may be from the least of each number to the greatest, and no further.
func TestMay(t *testing.T) {
	for _, buy := range []bool{true, false} {
		for _, x := range []struct {
			o   api.Order
			may bool
		}{
			{order(buy, 1, 1, 1), true}, {order(buy, 7, 500, 3), true},
			{api.Order{Number: math.MaxUint64, Account: math.MaxUint32, Buy: buy, Price: 10_000_000, Left: 1_000_000}, true},
			{api.Order{Number: 1 << 32, Account: 1, Buy: buy, Price: 1, Left: 1}, true},
			{api.Order{Number: 0, Account: 1, Buy: buy, Price: 1, Left: 1}, false},
			{api.Order{Number: 1, Account: 0, Buy: buy, Price: 1, Left: 1}, false},
			{order(buy, 1, 0, 1), false}, {order(buy, 1, -1, 1), false}, {order(buy, 1, 10_000_001, 1), false},
			{order(buy, 1, least, 1), false}, {order(buy, 1, greatest, 1), false}, {order(buy, 1, 1<<32+1, 1), false},
			{order(buy, 1, 1, 0), false}, {order(buy, 1, 1, -1), false}, {order(buy, 1, 1, 1_000_001), false},
			{order(buy, 1, 1, least), false}, {order(buy, 1, 1, greatest), false}, {order(buy, 1, 1, 1<<32+1), false},
			{api.Order{Buy: buy}, false},
		} {
			if got := side.May(x.o); got != x.may {
				t.Errorf("May(%v): %v", x.o, got)
			}
			s, e := side.New(buy), api.ErrArg
			if x.may {
				e = api.OK
			}
			hold(t, "Add", s.Add(x.o), e)
			if x.may {
				holdAll(t, "Add", s, x.o)
			} else {
				holdAll(t, "Add of what may not be", s)
			}
		}
	}
}

// P6.1: the better price stands first, of one price who came first, whatever the numbers, accounts and quantities.
func TestAddOrder(t *testing.T) {
	prices := []int64{10, 12, 10, 10_000_000, 12, 1, 11, 10, 1, 10_000_000}
	for _, buy := range []bool{true, false} {
		var l []api.Order
		for i, p := range prices {
			l = append(l, of(order(buy, uint64(50-i), p, int64(1+i%3)), uint32(1+i%4)))
		}
		places := []int{3, 9, 1, 4, 6, 0, 2, 7, 5, 8}
		if !buy {
			places = []int{5, 8, 0, 2, 7, 6, 1, 4, 3, 9}
		}
		var want []api.Order
		for _, p := range places {
			want = append(want, l[p])
		}
		holdAll(t, "Add", added(t, buy, l...), want...)
	}
}

// P6.1: an order that comes again comes last of its price.
func TestAddAgain(t *testing.T) {
	for _, buy := range []bool{true, false} {
		a, b, c := order(buy, 1, 10, 5), order(buy, 2, 10, 5), order(buy, 3, 10, 5)
		s := added(t, buy, a, b, c)
		holdDrop(t, s, 1, a, api.OK)
		hold(t, "Add", s.Add(a), api.OK)
		holdAll(t, "one that came again", s, b, c, a)
		holdFill(t, s, 5, leaving(b, 0), api.OK)
		hold(t, "Add", s.Add(b), api.OK)
		holdAll(t, "one that was filled", s, c, a, b)
	}
}

// full is a side with the orders 1 to 100 at the prices 1001 to 1100, one left each.
func full(t *testing.T, buy bool) *side.Side {
	t.Helper()
	s := side.New(buy)
	for i := range uint64(100) {
		n := 1 + i*37%100
		hold(t, "Add", s.Add(order(buy, n, int64(1000+n), 1)), api.OK)
	}
	return s
}

// P6.1: each error is ahead of those that are named behind it, and nothing changes.
func TestAddErrors(t *testing.T) {
	for _, buy := range []bool{true, false} {
		s := full(t, buy)
		all := slices.Collect(s.All())
		for _, x := range []struct {
			name string
			o    api.Order
			e    api.Errno
		}{
			{"the zero order", api.Order{}, api.ErrArg},
			{"the price 0 of a number that is there", order(buy, 5, 0, 1), api.ErrArg},
			{"nothing left of a number that is there", order(buy, 5, 10, 0), api.ErrArg},
			{"the other way", order(!buy, 200, 10, 5), api.ErrArg},
			{"the other way, a number that is there", order(!buy, 5, 10, 5), api.ErrArg},
			{"the order itself, the other way", order(!buy, 5, 1005, 1), api.ErrArg},
			{"a number that is there", order(buy, 1, 10, 5), api.ErrTwice},
			{"a number that is there, of another account", of(order(buy, 100, 10, 5), 7), api.ErrTwice},
			{"the order itself", order(buy, 50, 1050, 1), api.ErrTwice},
			{"one too many", order(buy, 101, 10, 5), api.ErrFull},
			{"one too many, the best", order(buy, 1<<63+1, 10_000_000, 5), api.ErrFull},
			{"one too many, the worst", order(buy, 101, 1, 5), api.ErrFull},
		} {
			hold(t, x.name, s.Add(x.o), x.e)
			holdAll(t, x.name, s, all...)
		}
	}
}

// P6.1: when one of a hundred goes, one more may come.
func TestAddWhenOneWent(t *testing.T) {
	for _, buy := range []bool{true, false} {
		s := full(t, buy)
		best, _ := s.Best()
		holdFill(t, s, 1, leaving(best, 0), api.OK)
		hold(t, "Add, when one was filled", s.Add(order(buy, 101, 10, 5)), api.OK)
		hold(t, "Add, one too many", s.Add(order(buy, 102, 10, 5)), api.ErrFull)
		holdDrop(t, s, 50, order(buy, 50, 1050, 1), api.OK)
		hold(t, "Add, when one was dropped", s.Add(order(buy, 102, 10, 5)), api.OK)
		hold(t, "Add, one too many", s.Add(order(buy, 103, 10, 5)), api.ErrFull)
		if s.Len() != 100 {
			t.Errorf("Len %d", s.Len())
		}
	}
}

// P6.2: the first order is filled, in parts or wholly, and keeps its place till nothing is left of it.
func TestFill(t *testing.T) {
	for _, buy := range []bool{true, false} {
		a, b, c := order(buy, 8, 10, 5), order(buy, 2, 10, 1_000_000), order(buy, 5, 10, 1)
		s := added(t, buy, a, b, c)
		holdFill(t, s, 2, leaving(a, 3), api.OK)
		holdAll(t, "a part", s, leaving(a, 3), b, c)
		for _, n := range []int64{0, -1, 4, 5, least, greatest} {
			holdFill(t, s, n, api.Order{}, api.ErrArg)
			holdAll(t, "refused", s, leaving(a, 3), b, c)
		}
		holdFill(t, s, 1, leaving(a, 2), api.OK)
		holdFill(t, s, 2, leaving(a, 0), api.OK)
		holdAll(t, "wholly", s, b, c)
		holdGet(t, s, 8, api.Order{}, api.ErrNone)
		holdFill(t, s, 999_999, leaving(b, 1), api.OK)
		holdFill(t, s, 1, leaving(b, 0), api.OK)
		holdFill(t, s, 1, leaving(c, 0), api.OK)
		holdAll(t, "all", s)
		for _, n := range []int64{1, 0, -1, greatest} {
			holdFill(t, s, n, api.Order{}, api.ErrNone)
		}
	}
}

// P6.2: any order goes, and is told as it stood; the others stay.
func TestDrop(t *testing.T) {
	for _, buy := range []bool{true, false} {
		l := sample(buy)
		first := added(t, buy, l...)
		all := slices.Collect(first.All())
		for i, o := range all {
			s := first.Copy()
			for _, number := range []uint64{0, 5, math.MaxUint64, o.Number + 1<<32} {
				holdDrop(t, s, number, api.Order{}, api.ErrNone)
				holdAll(t, "Drop of none", s, all...)
			}
			holdDrop(t, s, o.Number, o, api.OK)
			holdAll(t, "Drop", s, slices.Concat(all[:i], all[i+1:])...)
			holdDrop(t, s, o.Number, api.Order{}, api.ErrNone)
			holdGet(t, s, o.Number, api.Order{}, api.ErrNone)
		}
		hold(t, "Lower", first.Lower(3, 1), api.OK)
		holdDrop(t, first, 3, leaving(l[2], 1), api.OK)
	}
}

// P6.2: an order has less left, or as much, and keeps its place; never more, and never nothing.
func TestLower(t *testing.T) {
	for _, buy := range []bool{true, false} {
		a, b, c := order(buy, 8, 10, 1_000_000), order(buy, 2, 10, 6), order(buy, 5, 10, 1_000_000)
		s := added(t, buy, a, b, c)
		for _, left := range []int64{6, 5, 5, 2, 1, 1} {
			hold(t, "Lower", s.Lower(2, left), api.OK)
			for _, wrong := range []int64{0, -1, left + 1, 6 + 1, least, greatest} {
				hold(t, "Lower, refused", s.Lower(2, wrong), api.ErrArg)
			}
			holdAll(t, "Lower", s, a, leaving(b, left), c)
		}
		hold(t, "Lower of the first", s.Lower(8, 1), api.OK)
		hold(t, "Lower of the last", s.Lower(5, 999_999), api.OK)
		for _, number := range []uint64{0, 1, 2 + 1<<32, math.MaxUint64} {
			for _, left := range []int64{1, 0, -1, greatest} {
				hold(t, "Lower of none", s.Lower(number, left), api.ErrNone)
			}
		}
		holdAll(t, "Lower", s, leaving(a, 1), leaving(b, 1), leaving(c, 999_999))
	}
}

// P6.2: each order is got by its number, as it stands.
func TestGet(t *testing.T) {
	for _, buy := range []bool{true, false} {
		l := append(sample(buy), order(buy, math.MaxUint64, 11, 7))
		s := added(t, buy, l...)
		for _, o := range l {
			holdGet(t, s, o.Number, o, api.OK)
		}
		for _, number := range []uint64{0, 5, 1 << 32, 1<<32 + 1, math.MaxUint64 - 1} {
			holdGet(t, s, number, api.Order{}, api.ErrNone)
		}
		holdFill(t, s, 1, leaving(slices.Collect(s.All())[0], 4), api.OK)
		hold(t, "Lower", s.Lower(math.MaxUint64, 3), api.OK)
		for o := range s.All() {
			holdGet(t, s, o.Number, o, api.OK)
		}
		holdGet(t, s, math.MaxUint64, leaving(l[4], 3), api.OK)
	}
}

// P6.3: what is left at the price, or better, of all accounts but one.
func TestReach(t *testing.T) {
	for _, buy := range []bool{true, false} {
		way := int64(1)
		if !buy {
			way = -1
		}
		at := func(number uint64, account uint32, worse, left int64) api.Order {
			return of(order(buy, number, 1000-way*worse, left), account)
		}
		s := added(t, buy, at(1, 7, 2, 100), at(2, 8, 0, 1), at(3, 7, 0, 10), at(4, math.MaxUint32, 4, 1000), at(5, 8, 2, 10_000))
		for _, x := range []struct {
			worse int64
			not   uint32
			want  int64
		}{
			{-1, 0, 0}, {0, 0, 11}, {1, 0, 11}, {2, 0, 10_111}, {3, 0, 10_111}, {4, 0, 11_111}, {5, 0, 11_111},
			{0, 7, 1}, {0, 8, 10}, {2, 7, 10_001}, {2, 8, 110}, {4, 7, 11_001}, {4, 8, 1110}, {4, math.MaxUint32, 10_111},
			{4, 1, 11_111}, {4, 9, 11_111}, {0, math.MaxUint32, 11}, {-1, 7, 0},
		} {
			holdReach(t, s, 1000-way*x.worse, x.not, x.want)
		}
		hold(t, "Lower", s.Lower(5, 3), api.OK)
		holdReach(t, s, 1000-way*2, 0, 114)
		holdFill(t, s, 1, leaving(at(2, 8, 0, 1), 0), api.OK)
		holdReach(t, s, 1000-way*2, 0, 113)
		holdReach(t, s, 1000-way*2, 7, 3)
	}
}

// P6.3: any price is asked, not only such as an order may have; all that may be left adds up.
func TestReachAtTheEnds(t *testing.T) {
	for _, buy := range []bool{true, false} {
		s := side.New(buy)
		for i := range uint64(100) {
			hold(t, "Add", s.Add(of(order(buy, i+1, int64(1+9_999_999*(i%2)), 1_000_000), uint32(1+i%4))), api.OK)
		}
		all, half, none := int64(100_000_000), int64(50_000_000), int64(0)
		low, high := all, none
		if !buy {
			low, high = none, all
		}
		for _, x := range []struct{ price, want int64 }{
			{least, low}, {-1, low}, {0, low}, {10_000_001, high}, {greatest, high}, {2, half}, {9_999_999, half},
		} {
			holdReach(t, s, x.price, 0, x.want)
			holdReach(t, s, x.price, 5, x.want)
		}
		holdReach(t, s, 1, 0, map[bool]int64{true: all, false: half}[buy])
		holdReach(t, s, 10_000_000, 0, map[bool]int64{true: half, false: all}[buy])
		holdReach(t, s, 5000, 1, map[bool]int64{true: half, false: half / 2}[buy])
		holdReach(t, s, 5000, 2, map[bool]int64{true: half / 2, false: half}[buy])
	}
}

// P6.3: on a side without orders nothing is reached.
func TestReachOfNone(t *testing.T) {
	for _, buy := range []bool{true, false} {
		for _, price := range []int64{least, 0, 1, 10_000_000, greatest} {
			holdReach(t, side.New(buy), price, 0, 0)
			holdReach(t, side.New(buy), price, 7, 0)
		}
		holdAll(t, "a new one", side.New(buy))
	}
}
