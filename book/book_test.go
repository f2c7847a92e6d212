package book_test

import (
	"math"
	"slices"
	"testing"

	"broadside/api"
	"broadside/book"
)

const (
	least    = math.MinInt64
	greatest = math.MaxInt64
)

// way is how a scenario goes: as it is written, or turned round: who buys sells, and the best price is the worst.
type way bool

// ways are both.
var ways = []way{false, true}

// price turns one.
func (w way) price(p int64) int64 {
	if w && p >= 1 && p <= 10_000_000 {
		return 10_000_001 - p
	}
	return p
}

// buy is an order that buys, as it is written.
func (w way) buy(number uint64, account uint32, price, left int64) api.Order {
	return api.Order{Number: number, Account: account, Buy: !bool(w), Price: w.price(price), Left: left}
}

// sell is an order that sells, as it is written.
func (w way) sell(number uint64, account uint32, price, left int64) api.Order {
	return api.Order{Number: number, Account: account, Buy: bool(w), Price: w.price(price), Left: left}
}

// trade is one with that order.
func (w way) trade(with api.Order, qty int64) api.Trade {
	return api.Trade{Price: with.Price, Qty: qty, Number: with.Number, Account: with.Account}
}

// resting is a new book in which these orders rest, which come one after the other and trade with none.
func resting(t *testing.T, l ...api.Order) *book.Book {
	t.Helper()
	b := book.New()
	for _, o := range l {
		holdPlace(t, b, o, api.KindLimit, api.Placed{Left: o.Left})
	}
	return b
}

// leaving is the order, with that left.
func leaving(o api.Order, left int64) api.Order {
	o.Left = left
	return o
}

// at is the order, at that price.
func at(o api.Order, price int64) api.Order {
	o.Price = price
	return o
}

func hold(t *testing.T, name string, got, want api.Errno) {
	t.Helper()
	if got != want {
		t.Errorf("%s: error %d, want %d", name, got, want)
	}
}

// same tells whether two orders' fates are the same; lists that are nil and empty ones are.
func same(a, b api.Placed) bool {
	return a.Filled == b.Filled && a.Left == b.Left && slices.Equal(a.Trades, b.Trades) && slices.Equal(a.Gone, b.Gone)
}

// holdPlaced: that was told, and no error.
func holdPlaced(t *testing.T, name string, got api.Placed, e api.Errno, want api.Placed) {
	t.Helper()
	if e != api.OK || !same(got, want) {
		t.Errorf("%s: %+v, error %d; want %+v", name, got, e, want)
	}
}

func holdPlace(t *testing.T, b *book.Book, o api.Order, k api.Kind, want api.Placed) {
	t.Helper()
	got, e := b.Place(o, k)
	holdPlaced(t, "Place", got, e, want)
}

func holdReplace(t *testing.T, b *book.Book, number uint64, price, left int64, want api.Placed) {
	t.Helper()
	got, e := b.Replace(number, price, left)
	holdPlaced(t, "Replace", got, e, want)
}

// holdTold: a call told that order, or that error and the zero order.
func holdTold(t *testing.T, name string, got api.Order, e api.Errno, want api.Order, wantE api.Errno) {
	t.Helper()
	if got != want || e != wantE {
		t.Errorf("%s: %v, error %d; want %v, error %d", name, got, e, want, wantE)
	}
}

func holdCancel(t *testing.T, b *book.Book, number uint64, want api.Order, wantE api.Errno) {
	t.Helper()
	got, e := b.Cancel(number)
	holdTold(t, "Cancel", got, e, want, wantE)
}

func holdGet(t *testing.T, b *book.Book, number uint64, want api.Order, wantE api.Errno) {
	t.Helper()
	got, e := b.Get(number)
	holdTold(t, "Get", got, e, want, wantE)
}

func holdOpen(t *testing.T, b *book.Book, account uint32, wantBuys, wantSells int64) {
	t.Helper()
	if buys, sells := b.Open(account); buys != wantBuys || sells != wantSells {
		t.Errorf("Open(%d): %d, %d; want %d, %d", account, buys, sells, wantBuys, wantSells)
	}
}

// inOrder are the orders with those that buy ahead, each side as it stands in the list.
func inOrder(l []api.Order) []api.Order {
	var buys, sells []api.Order
	for _, o := range l {
		if o.Buy {
			buys = append(buys, o)
		} else {
			sells = append(sells, o)
		}
	}
	return append(buys, sells...)
}

// holdAll: the book has these orders, whole; each side's stand as they stand in the list. The best price to buy is below the best one to sell.
func holdAll(t *testing.T, name string, b *book.Book, l ...api.Order) {
	t.Helper()
	got := slices.Collect(b.All())
	if want := inOrder(l); !slices.Equal(got, want) {
		t.Errorf("%s: the orders %v, want %v", name, got, want)
	}
	buy, sell := int64(0), int64(10_000_001)
	for _, o := range got {
		if o.Buy {
			buy = max(buy, o.Price)
		} else {
			sell = min(sell, o.Price)
		}
	}
	if buy >= sell {
		t.Errorf("%s: to buy at %d, to sell at %d", name, buy, sell)
	}
}

// The chapter's examples.
func TestExamples(t *testing.T) {
	for _, w := range ways {
		a, b, c := w.sell(1, 7, 10, 5), w.sell(2, 8, 10, 5), w.sell(3, 7, 11, 5)
		x := resting(t, a, b, c)
		fate := api.Placed{Trades: []api.Trade{w.trade(b, 5)}, Gone: []uint64{1}, Filled: 5, Left: 2}
		holdPlace(t, x, w.buy(9, 7, 10, 7), api.KindLimit, fate)
		holdAll(t, "at 10, 7 left, KindLimit", x, w.buy(9, 7, 10, 2), c)

		x = resting(t, a, b, c)
		fate.Left = 0
		holdPlace(t, x, w.buy(9, 7, 11, 5), api.KindAll, fate)
		holdAll(t, "at 11, 5 left, KindAll", x, c)

		x = resting(t, a, b, c)
		holdRefused(t, "at 11, 6 left, KindAll", x, w.buy(9, 7, 11, 6), api.KindAll, api.ErrAll)
		holdRefused(t, "at 10, KindPost", x, w.buy(9, 7, 10, 5), api.KindPost, api.ErrCross)

		d := w.sell(4, 9, 11, 5)
		x = resting(t, a, b, c, d)
		holdReplace(t, x, 3, w.price(11), 2, api.Placed{Left: 2})
		holdAll(t, "Replace(3, 11, 2)", x, a, b, leaving(c, 2), d)
		holdReplace(t, x, 3, w.price(12), 2, api.Placed{Left: 2})
		holdAll(t, "Replace(3, 12, 2)", x, a, b, d, w.sell(3, 7, 12, 2))
	}
}

// holdRefused: the order is refused with that error; nothing is told, and nothing changes.
func holdRefused(t *testing.T, name string, b *book.Book, o api.Order, k api.Kind, want api.Errno) {
	t.Helper()
	all := slices.Collect(b.All())
	got, e := b.Place(o, k)
	if e != want || !same(got, api.Placed{}) {
		t.Errorf("%s: %+v, error %d; want error %d", name, got, e, want)
	}
	holdAll(t, name, b, all...)
}

// R1: books that are not there, and zero ones, which stay such whatever is asked of them.
func TestNoBook(t *testing.T) {
	for _, b := range []*book.Book{nil, {}} {
		for range 2 {
			for _, w := range ways {
				for k := range api.Kind(6) {
					holdRefused(t, "Place", b, w.buy(1, 7, 10, 5), k, api.ErrNil)
				}
			}
			holdRefused(t, "Place of what may not be", b, api.Order{}, api.KindLimit, api.ErrNil)
			for _, n := range []uint64{0, 1, math.MaxUint64} {
				got, e := b.Replace(n, int64(n), int64(n))
				if e != api.ErrNil || !same(got, api.Placed{}) {
					t.Errorf("Replace: %+v, error %d", got, e)
				}
				holdCancel(t, b, n, api.Order{}, api.ErrNil)
				holdGet(t, b, n, api.Order{}, api.ErrNil)
				holdOpen(t, b, uint32(n), 0, 0)
				holdMass(t, b, uint32(n))
			}
			if b.Copy() != nil {
				t.Error("Copy is there")
			}
			holdAll(t, "no book", b)
		}
	}
}

// A new book is there, and has nothing.
func TestNew(t *testing.T) {
	b := book.New()
	holdAll(t, "a new one", b)
	holdMass(t, b, 0)
	holdMass(t, b, 7)
	holdOpen(t, b, 7, 0, 0)
	holdCancel(t, b, 1, api.Order{}, api.ErrNone)
	holdGet(t, b, 1, api.Order{}, api.ErrNone)
	for _, w := range ways {
		for k := range api.Kind(4) {
			want := api.Placed{}
			switch k + 1 {
			case api.KindAll:
				holdRefused(t, "KindAll", book.New(), w.buy(1, 7, 10, 5), api.KindAll, api.ErrAll)
				continue
			case api.KindLimit, api.KindPost:
				want.Left = 5
			}
			holdPlace(t, book.New(), w.buy(1, 7, 10, 5), k+1, want)
		}
	}
}
