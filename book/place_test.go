package book_test

import (
	"math"
	"testing"

	"broadside/api"
	"broadside/book"
)

// P7.1: an order may be from the least of each number to the greatest, of each kind that there is, and no further.
func TestPlaceArg(t *testing.T) {
	for _, w := range ways {
		for _, x := range []struct {
			name string
			o    api.Order
			k    api.Kind
		}{
			{"the zero order", api.Order{}, api.KindLimit},
			{"the number 0", w.buy(0, 7, 10, 5), api.KindLimit},
			{"the account 0", w.buy(9, 0, 10, 5), api.KindNow},
			{"the price 0", w.buy(9, 7, 0, 5), api.KindLimit},
			{"a price below 0", w.buy(9, 7, least, 5), api.KindPost},
			{"a price too high", w.buy(9, 7, 10_000_001, 5), api.KindLimit},
			{"the highest number as a price", w.buy(9, 7, greatest, 5), api.KindLimit},
			{"nothing left", w.buy(9, 7, 10, 0), api.KindAll},
			{"less than nothing left", w.buy(9, 7, 10, -1), api.KindAll},
			{"the least left", w.buy(9, 7, 10, least), api.KindNow},
			{"too much left", w.buy(9, 7, 10, 1_000_001), api.KindLimit},
			{"the most left", w.buy(9, 7, 10, greatest), api.KindNow},
			{"the kind 0", w.buy(9, 7, 10, 5), 0},
			{"the kind 5", w.buy(9, 7, 10, 5), 5},
			{"the kind 255", w.buy(9, 7, 10, 5), 255},
		} {
			holdRefused(t, x.name, book.New(), x.o, x.k, api.ErrArg)
			holdRefused(t, x.name, resting(t, w.sell(1, 8, 10, 5), w.buy(2, 8, 9, 5)), x.o, x.k, api.ErrArg)
		}
		for _, o := range []api.Order{
			w.buy(1, 1, 1, 1), w.buy(math.MaxUint64, math.MaxUint32, 10_000_000, 1_000_000), w.buy(1<<32, 1, 1, 1_000_000),
		} {
			for _, k := range []api.Kind{api.KindLimit, api.KindPost} {
				b := book.New()
				holdPlace(t, b, o, k, api.Placed{Left: o.Left})
				holdAll(t, "it rests", b, o)
			}
		}
	}
}

// P7.1: each error is ahead of those that are named behind it.
func TestPlaceErrors(t *testing.T) {
	for _, w := range ways {
		b := full(t, w)
		holdPlace(t, b, w.sell(200, 8, 500, 5), api.KindLimit, api.Placed{Left: 5})
		holdPlace(t, b, w.sell(201, 7, 500, 5), api.KindLimit, api.Placed{Left: 5})
		for _, x := range []struct {
			name string
			o    api.Order
			k    api.Kind
			e    api.Errno
		}{
			{"may not be, and is there", w.buy(3, 0, 10, 5), api.KindLimit, api.ErrArg},
			{"of no kind, and is there", w.buy(3, 7, 10, 5), 0, api.ErrArg},
			{"of no kind, and is there on the other side", w.buy(200, 7, 10, 5), 5, api.ErrArg},
			{"is there", w.buy(3, 7, 10, 5), api.KindLimit, api.ErrTwice},
			{"is there, would not trade at all", w.buy(3, 7, 10, 5), api.KindAll, api.ErrTwice},
			{"is there, would trade", w.buy(3, 7, 500, 5), api.KindPost, api.ErrTwice},
			{"is there, would not rest", w.buy(3, 7, 500, 5), api.KindNow, api.ErrTwice},
			{"is there on the other side", w.buy(200, 7, 10, 5), api.KindLimit, api.ErrTwice},
			{"is there on the other side, of the same account", w.buy(201, 7, 500, 5), api.KindNow, api.ErrTwice},
			{"is there on the other side, would trade", w.buy(200, 7, 500, 5), api.KindPost, api.ErrTwice},
			{"is there on the other side, would not trade wholly", w.buy(200, 7, 500, 6), api.KindAll, api.ErrTwice},
			{"is there on the full side", w.sell(3, 8, 10_000_000, 5), api.KindLimit, api.ErrTwice},
			{"would not trade wholly, its side full", w.buy(300, 7, 500, 6), api.KindAll, api.ErrAll},
			{"would trade, its side full", w.buy(300, 7, 500, 6), api.KindPost, api.ErrCross},
			{"its side full", w.buy(300, 7, 500, 6), api.KindLimit, api.ErrFull},
		} {
			holdRefused(t, x.name, b, x.o, x.k, x.e)
		}
	}
}

// full is a book in which the orders 1 to 100 of the account 9 buy, one each, at the prices 101 to 200.
func full(t *testing.T, w way) *book.Book {
	t.Helper()
	b := book.New()
	for i := range uint64(100) {
		n := 1 + i*37%100
		holdPlace(t, b, w.buy(n, 9, int64(100+n), 1), api.KindLimit, api.Placed{Left: 1})
	}
	return b
}

// fullOrders are the orders of that book as they stand.
func fullOrders(w way) []api.Order {
	var l []api.Order
	for n := uint64(100); n > 0; n-- {
		l = append(l, w.buy(n, 9, int64(100+n), 1))
	}
	return l
}

// P7.1: a full side refuses just what would rest on it.
func TestPlaceFull(t *testing.T) {
	for _, w := range ways {
		own, other, behind := w.sell(200, 7, 500, 5), w.sell(201, 8, 500, 5), w.sell(202, 8, 501, 5)
		made := func() *book.Book {
			b := full(t, w)
			for _, o := range []api.Order{own, other, behind} {
				holdPlace(t, b, o, api.KindPost, api.Placed{Left: 5})
			}
			return b
		}
		b := made()
		holdRefused(t, "it meets none", b, w.buy(300, 7, 499, 1), api.KindLimit, api.ErrFull)
		holdRefused(t, "the best", b, w.buy(300, 9, 499, 1), api.KindPost, api.ErrFull)
		holdRefused(t, "one would be left, for what goes is not traded", b, w.buy(300, 7, 500, 6), api.KindLimit, api.ErrFull)
		holdRefused(t, "one would be left", b, w.buy(300, 3, 501, 16), api.KindLimit, api.ErrFull)
		holdPlace(t, b, w.buy(300, 7, 499, 1), api.KindNow, api.Placed{})
		holdAll(t, "a full side and KindNow", b, append(fullOrders(w), own, other, behind)...)

		wholly := api.Placed{Trades: []api.Trade{w.trade(other, 5)}, Gone: []uint64{200}, Filled: 5}
		holdPlace(t, b, w.buy(300, 7, 500, 5), api.KindLimit, wholly)
		holdAll(t, "nothing is left", b, append(fullOrders(w), behind)...)
		b = made()
		holdPlace(t, b, w.buy(300, 7, 500, 5), api.KindAll, wholly)
		holdAll(t, "KindAll", b, append(fullOrders(w), behind)...)
		b = made()
		holdPlace(t, b, w.buy(300, 7, 500, 9), api.KindNow, wholly)
		holdAll(t, "KindNow", b, append(fullOrders(w), behind)...)

		holdCancel(t, b, 50, w.buy(50, 9, 150, 1), api.OK)
		holdPlace(t, b, w.buy(300, 7, 1, 1_000_000), api.KindLimit, api.Placed{Left: 1_000_000})
		holdRefused(t, "full again", b, w.buy(301, 7, 1, 1), api.KindPost, api.ErrFull)
		holdCancel(t, b, 300, w.buy(300, 7, 1, 1_000_000), api.OK)
		holdPlace(t, b, w.buy(301, 7, 1, 1), api.KindPost, api.Placed{Left: 1})
		holdPlace(t, b, w.sell(302, 7, 500, 1), api.KindPost, api.Placed{Left: 1})
	}
}

// P7.1: who rests trades at his own price, the best one first, of one price who came first.
func TestPlaceMeets(t *testing.T) {
	for _, w := range ways {
		a, b, c, d := w.sell(5, 8, 11, 3), w.sell(4, 6, 10, 4), w.sell(3, 8, 10, 2), w.sell(2, 5, 13, 9)
		for _, x := range []struct {
			price, left int64
			want        api.Placed
			rest        []api.Order
		}{
			{9, 5, api.Placed{Left: 5}, []api.Order{b, c, a, d}},
			{10, 1, api.Placed{Trades: []api.Trade{w.trade(b, 1)}, Filled: 1}, []api.Order{leaving(b, 3), c, a, d}},
			{13, 4, api.Placed{Trades: []api.Trade{w.trade(b, 4)}, Filled: 4}, []api.Order{c, a, d}},
			{10, 5, api.Placed{Trades: []api.Trade{w.trade(b, 4), w.trade(c, 1)}, Filled: 5}, []api.Order{leaving(c, 1), a, d}},
			{10, 7, api.Placed{Trades: []api.Trade{w.trade(b, 4), w.trade(c, 2)}, Filled: 6, Left: 1}, []api.Order{a, d}},
			{12, 10, api.Placed{Trades: []api.Trade{w.trade(b, 4), w.trade(c, 2), w.trade(a, 3)}, Filled: 9, Left: 1}, []api.Order{d}},
			{10_000_000, 18, api.Placed{Trades: []api.Trade{w.trade(b, 4), w.trade(c, 2), w.trade(a, 3), w.trade(d, 9)}, Filled: 18}, nil},
			{13, 1_000_000, api.Placed{Trades: []api.Trade{w.trade(b, 4), w.trade(c, 2), w.trade(a, 3), w.trade(d, 9)}, Filled: 18, Left: 999_982}, nil},
		} {
			in := w.buy(9, 7, x.price, x.left)
			book := resting(t, a, b, c, d)
			holdPlace(t, book, in, api.KindLimit, x.want)
			rest := x.rest
			if x.want.Left > 0 {
				rest = append(rest, leaving(in, x.want.Left))
			}
			holdAll(t, "KindLimit", book, rest...)

			now := x.want
			now.Left = 0
			book = resting(t, a, b, c, d)
			holdPlace(t, book, in, api.KindNow, now)
			holdAll(t, "KindNow", book, x.rest...)

			book = resting(t, a, b, c, d)
			if x.want.Left > 0 {
				holdRefused(t, "KindAll", book, in, api.KindAll, api.ErrAll)
			} else {
				holdPlace(t, book, in, api.KindAll, x.want)
				holdAll(t, "KindAll", book, x.rest...)
			}

			book = resting(t, a, b, c, d)
			if x.want.Filled > 0 {
				holdRefused(t, "KindPost", book, in, api.KindPost, api.ErrCross)
			} else {
				holdPlace(t, book, in, api.KindPost, x.want)
				holdAll(t, "KindPost", book, rest...)
			}
		}
	}
}

// P7.1: one's own orders go untraded when they are met, and only then.
func TestPlaceOwn(t *testing.T) {
	for _, w := range ways {
		a, b, c, d, e := w.sell(1, 7, 10, 5), w.sell(6, 8, 10, 5), w.sell(3, 7, 11, 5), w.sell(2, 7, 11, 5), w.sell(5, 8, 12, 5)
		f := w.sell(4, 7, 12, 5)
		for _, x := range []struct {
			name        string
			k           api.Kind
			price, left int64
			want        api.Placed
			rest        []api.Order
		}{
			{"those behind stay when nothing is left", api.KindLimit, 12, 5, api.Placed{Trades: []api.Trade{w.trade(b, 5)}, Gone: []uint64{1}, Filled: 5}, []api.Order{c, d, e, f}},
			{"a part", api.KindLimit, 12, 4, api.Placed{Trades: []api.Trade{w.trade(b, 4)}, Gone: []uint64{1}, Filled: 4}, []api.Order{leaving(b, 1), c, d, e, f}},
			{"between two trades", api.KindLimit, 12, 6, api.Placed{Trades: []api.Trade{w.trade(b, 5), w.trade(e, 1)}, Gone: []uint64{1, 3, 2}, Filled: 6}, []api.Order{leaving(e, 4), f}},
			{"all", api.KindLimit, 12, 11, api.Placed{Trades: []api.Trade{w.trade(b, 5), w.trade(e, 5)}, Gone: []uint64{1, 3, 2, 4}, Filled: 10, Left: 1}, nil},
			{"those within the price", api.KindLimit, 11, 9, api.Placed{Trades: []api.Trade{w.trade(b, 5)}, Gone: []uint64{1, 3, 2}, Filled: 5, Left: 4}, []api.Order{e, f}},
			{"none is met", api.KindLimit, 9, 9, api.Placed{Left: 9}, []api.Order{a, b, c, d, e, f}},
			{"now", api.KindNow, 11, 9, api.Placed{Trades: []api.Trade{w.trade(b, 5)}, Gone: []uint64{1, 3, 2}, Filled: 5}, []api.Order{e, f}},
			{"wholly", api.KindAll, 12, 10, api.Placed{Trades: []api.Trade{w.trade(b, 5), w.trade(e, 5)}, Gone: []uint64{1, 3, 2}, Filled: 10}, []api.Order{f}},
		} {
			in := w.buy(9, 7, x.price, x.left)
			book := resting(t, a, b, c, d, e, f)
			holdPlace(t, book, in, x.k, x.want)
			rest := x.rest
			if x.want.Left > 0 {
				rest = append(rest, leaving(in, x.want.Left))
			}
			holdAll(t, x.name, book, rest...)
		}
		book := resting(t, a, b, c, d, e, f)
		holdRefused(t, "one's own are not traded", book, w.buy(9, 7, 12, 11), api.KindAll, api.ErrAll)
		holdRefused(t, "nor those out of reach", book, w.buy(9, 7, 11, 6), api.KindAll, api.ErrAll)
	}
}

// P7.1: where one's own orders alone are met, they go, and there is no trade.
func TestPlaceOwnAlone(t *testing.T) {
	for _, w := range ways {
		a, b, c := w.sell(1, 7, 10, 5), w.sell(2, 7, 11, 1_000_000), w.sell(3, 8, 12, 5)
		in := w.buy(9, 7, 11, 5)
		for _, k := range []api.Kind{api.KindLimit, api.KindPost} {
			book := resting(t, a, b, c)
			holdPlace(t, book, in, k, api.Placed{Gone: []uint64{1, 2}, Left: 5})
			holdAll(t, "it rests", book, in, c)
		}
		book := resting(t, a, b, c)
		holdRefused(t, "KindAll", book, in, api.KindAll, api.ErrAll)
		holdPlace(t, book, in, api.KindNow, api.Placed{Gone: []uint64{1, 2}})
		holdAll(t, "KindNow", book, c)
		holdRefused(t, "KindPost that reaches one of another one's", resting(t, w.sell(4, 8, 11, 1), a), in, api.KindPost, api.ErrCross)
		holdRefused(t, "KindPost that reaches another one's, too", resting(t, a, b, c), w.buy(9, 7, 12, 1), api.KindPost, api.ErrCross)
	}
}

// P7.1: a hundred orders are met at once, half of them one's own; as much as may be is traded.
func TestPlaceMany(t *testing.T) {
	for _, w := range ways {
		b := book.New()
		var want api.Placed
		for i := range uint64(100) {
			o := w.sell(i+1, uint32(7+i%2), int64(1000+i), 10_001)
			holdPlace(t, b, o, api.KindLimit, api.Placed{Left: 10_001})
			if o.Account == 7 {
				want.Gone = append(want.Gone, o.Number)
			} else {
				want.Trades = append(want.Trades, w.trade(o, 10_001))
			}
		}
		want.Filled, want.Left = 500_050, 499_950
		holdPlace(t, b, w.buy(1000, 7, 10_000_000, 1_000_000), api.KindLimit, want)
		holdAll(t, "what is left", b, w.buy(1000, 7, 10_000_000, 499_950))
	}
}

// P7.1: a number that has gone, or was filled, or never rested, may come again, on either side.
func TestPlaceAgain(t *testing.T) {
	for _, w := range ways {
		a, c := w.sell(1, 8, 10, 5), w.buy(2, 7, 10, 5)
		b := resting(t, a)
		holdPlace(t, b, c, api.KindNow, api.Placed{Trades: []api.Trade{w.trade(a, 5)}, Filled: 5})
		holdPlace(t, b, w.buy(1, 3, 10, 5), api.KindLimit, api.Placed{Left: 5})
		holdPlace(t, b, w.sell(2, 3, 11, 5), api.KindLimit, api.Placed{Left: 5})
		holdPlace(t, b, w.buy(3, 3, 11, 5), api.KindLimit, api.Placed{Gone: []uint64{2}, Left: 5})
		holdPlace(t, b, w.buy(2, 3, 11, 5), api.KindPost, api.Placed{Left: 5})
		holdAll(t, "again", b, w.buy(3, 3, 11, 5), w.buy(2, 3, 11, 5), w.buy(1, 3, 10, 5))
	}
}
