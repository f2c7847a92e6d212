package book_test

import (
	"math"
	"slices"
	"testing"

	"broadside/api"
	"broadside/book"
)

// P7.2: at its price, with no more left, an order keeps its place; else it is the last of its price.
func TestReplacePlace(t *testing.T) {
	for _, w := range ways {
		a, b, c, d := w.buy(4, 7, 10, 5), w.buy(2, 7, 10, 6), w.buy(3, 8, 10, 5), w.buy(1, 7, 9, 5)
		for _, left := range []int64{6, 5, 1} {
			x := resting(t, a, b, c, d)
			holdReplace(t, x, 2, b.Price, left, api.Placed{Left: left})
			holdAll(t, "no more left", x, a, leaving(b, left), c, d)
		}
		for _, left := range []int64{7, 1_000_000} {
			x := resting(t, a, b, c, d)
			holdReplace(t, x, 2, b.Price, left, api.Placed{Left: left})
			holdAll(t, "more left", x, a, c, leaving(b, left), d)
		}
		for _, left := range []int64{6, 5, 7} {
			x := resting(t, a, b, c, d)
			holdReplace(t, x, 2, w.price(9), left, api.Placed{Left: left})
			holdAll(t, "a worse price", x, a, c, d, at(leaving(b, left), w.price(9)))
			holdReplace(t, x, 2, w.price(11), left, api.Placed{Left: left})
			holdAll(t, "a better price", x, at(leaving(b, left), w.price(11)), a, c, d)
			holdReplace(t, x, 2, w.price(10), left, api.Placed{Left: left})
			holdAll(t, "its price again", x, a, c, leaving(b, left), d)
		}
		x := resting(t, a, b, c, d)
		holdReplace(t, x, 4, a.Price, 3, api.Placed{Left: 3})
		holdReplace(t, x, 4, a.Price, 4, api.Placed{Left: 4})
		holdAll(t, "less, and more again", x, b, c, leaving(a, 4), d)
	}
}

// P7.2: an order with a new price meets the other side as a KindLimit does: what is left rests, and one's own go.
func TestReplaceTrades(t *testing.T) {
	for _, w := range ways {
		a, b, c, d := w.sell(11, 8, 20, 5), w.sell(12, 7, 20, 5), w.sell(13, 9, 21, 5), w.sell(14, 7, 22, 5)
		e, f := w.buy(2, 7, 10, 50), w.buy(1, 6, 15, 5)
		for _, x := range []struct {
			price, left int64
			want        api.Placed
			rest        []api.Order
		}{
			{19, 5, api.Placed{Left: 5}, []api.Order{a, b, c, d}},
			{20, 3, api.Placed{Trades: []api.Trade{w.trade(a, 3)}, Filled: 3}, []api.Order{leaving(a, 2), b, c, d}},
			{20, 5, api.Placed{Trades: []api.Trade{w.trade(a, 5)}, Filled: 5}, []api.Order{b, c, d}},
			{20, 6, api.Placed{Trades: []api.Trade{w.trade(a, 5)}, Gone: []uint64{12}, Filled: 5, Left: 1}, []api.Order{c, d}},
			{21, 60, api.Placed{Trades: []api.Trade{w.trade(a, 5), w.trade(c, 5)}, Gone: []uint64{12}, Filled: 10, Left: 50}, []api.Order{d}},
			{10_000_000, 11, api.Placed{Trades: []api.Trade{w.trade(a, 5), w.trade(c, 5)}, Gone: []uint64{12, 14}, Filled: 10, Left: 1}, nil},
		} {
			book := resting(t, a, b, c, d, e, f)
			holdReplace(t, book, 2, w.price(x.price), x.left, x.want)
			rest := x.rest
			if x.want.Left > 0 {
				rest = append(rest, at(leaving(e, x.want.Left), w.price(x.price)))
			}
			holdAll(t, "replaced", book, append(rest, f)...)
		}
		own := resting(t, w.sell(11, 7, 20, 5), e)
		holdReplace(t, own, 2, w.price(20), 1, api.Placed{Gone: []uint64{11}, Left: 1})
		holdAll(t, "one's own alone", own, at(leaving(e, 1), w.price(20)))
		holdReplace(t, own, 2, w.price(10), 50, api.Placed{Left: 50})
		holdAll(t, "back", own, e)
	}
}

// P7.2: each error is ahead of those that are named behind it, and nothing changes.
func TestReplaceErrors(t *testing.T) {
	for _, w := range ways {
		a, c := w.buy(1, 7, 10, 5), w.sell(1<<32+1, 8, 12, 5)
		b := resting(t, a, c)
		for _, x := range []struct {
			name        string
			number      uint64
			price, left int64
			e           api.Errno
		}{
			{"no number", 0, w.price(10), 5, api.ErrNone},
			{"nobody's number", 2, w.price(10), 5, api.ErrNone},
			{"nobody's number, no price", math.MaxUint64, 0, 5, api.ErrNone},
			{"nobody's number, nothing left", 1 << 32, w.price(10), 0, api.ErrNone},
			{"the price 0", 1, 0, 5, api.ErrArg},
			{"a price below 0", 1, -10, 5, api.ErrArg},
			{"the least price", 1, least, 5, api.ErrArg},
			{"a price too high", 1, 10_000_001, 5, api.ErrArg},
			{"the greatest price", 1, greatest, 5, api.ErrArg},
			{"nothing left", 1, w.price(10), 0, api.ErrArg},
			{"less than nothing left", 1, w.price(10), -1, api.ErrArg},
			{"the least left", 1, w.price(10), least, api.ErrArg},
			{"too much left", 1, w.price(10), 1_000_001, api.ErrArg},
			{"the most left", 1, w.price(10), greatest, api.ErrArg},
			{"nothing left at another price", 1, w.price(11), 0, api.ErrArg},
			{"too much left, of what would trade", 1, w.price(12), 1_000_001, api.ErrArg},
			{"on the other side", 1<<32 + 1, 0, 1, api.ErrArg},
			{"nothing left on the other side", 1<<32 + 1, w.price(12), 0, api.ErrArg},
		} {
			got, e := b.Replace(x.number, x.price, x.left)
			if e != x.e || !same(got, api.Placed{}) {
				t.Errorf("%s: %+v, error %d; want error %d", x.name, got, e, x.e)
			}
			holdAll(t, x.name, b, a, c)
		}
		for _, x := range [][2]int64{{1, 1}, {11, 1_000_000}, {1, 1_000_000}, {11, 1}} {
			holdReplace(t, b, 1, w.price(x[0]), x[1], api.Placed{Left: x[1]})
			holdAll(t, "the ends", b, w.buy(1, 7, x[0], x[1]), c)
		}
		holdReplace(t, b, 1<<32+1, w.price(10_000_000), 1_000_000, api.Placed{Left: 1_000_000})
		holdAll(t, "the other side", b, w.buy(1, 7, 11, 1), w.sell(1<<32+1, 8, 10_000_000, 1_000_000))
	}
}

// P7.2: on a full side there is room for who goes and is placed again.
func TestReplaceFull(t *testing.T) {
	for _, w := range ways {
		b := full(t, w)
		holdReplace(t, b, 50, w.price(1), 7, api.Placed{Left: 7})
		holdReplace(t, b, 1, w.price(101), 2, api.Placed{Left: 2})
		var want []api.Order
		for _, o := range fullOrders(w) {
			switch o.Number {
			case 50:
			case 1:
				want = append(want, leaving(o, 2))
			default:
				want = append(want, o)
			}
		}
		holdAll(t, "a full side", b, append(want, w.buy(50, 9, 1, 7))...)
		holdRefused(t, "it is full still", b, w.buy(300, 7, 1, 1), api.KindLimit, api.ErrFull)
	}
}

// P7.2: of two that stand alike the one that was replaced trades behind the other one.
func TestReplaceThenMeet(t *testing.T) {
	for _, w := range ways {
		a, c := w.sell(1, 7, 10, 5), w.sell(2, 8, 10, 5)
		b := resting(t, a, c)
		holdReplace(t, b, 1, w.price(10), 6, api.Placed{Left: 6})
		holdPlace(t, b, w.buy(9, 9, 10, 6), api.KindLimit, api.Placed{Trades: []api.Trade{w.trade(c, 5), w.trade(a, 1)}, Filled: 6})
		holdAll(t, "then", b, a)
	}
}

// P7.3: any order goes, and is told as it stood; the others stay.
func TestCancel(t *testing.T) {
	for _, w := range ways {
		l := []api.Order{w.buy(5, 7, 10, 5), w.buy(3, 8, 10, 5), w.buy(math.MaxUint64, 7, 8, 5), w.sell(4, 7, 12, 5), w.sell(1<<32+4, 8, 12, 5)}
		first := resting(t, l...)
		for i, o := range l {
			b := first.Copy()
			for _, number := range []uint64{0, 1, 1<<32 + 5, math.MaxUint64 - 1} {
				holdCancel(t, b, number, api.Order{}, api.ErrNone)
				holdGet(t, b, number, api.Order{}, api.ErrNone)
				holdAll(t, "Cancel of none", b, l...)
			}
			holdGet(t, b, o.Number, o, api.OK)
			holdReplace(t, b, o.Number, o.Price, 2, api.Placed{Left: 2})
			holdGet(t, b, o.Number, leaving(o, 2), api.OK)
			holdCancel(t, b, o.Number, leaving(o, 2), api.OK)
			holdAll(t, "Cancel", b, slices.Concat(l[:i], l[i+1:])...)
			holdCancel(t, b, o.Number, api.Order{}, api.ErrNone)
			holdGet(t, b, o.Number, api.Order{}, api.ErrNone)
		}
	}
}

// holdMass: those orders go, and are told, those that buy ahead.
func holdMass(t *testing.T, b *book.Book, account uint32, l ...api.Order) {
	t.Helper()
	if got, want := b.Mass(account), inOrder(l); !slices.Equal(got, want) {
		t.Errorf("Mass(%d): %v, want %v", account, got, want)
	}
}

// P7.3: all orders of an account go, on both sides; of all accounts, if it is 0; none, if it has none.
func TestMass(t *testing.T) {
	for _, w := range ways {
		a, b, c, d := w.buy(6, 7, 10, 5), w.buy(5, 8, 11, 4), w.buy(4, 7, 11, 3), w.buy(3, 7, 11, 2)
		e, f, g := w.sell(2, 7, 12, 1), w.sell(1, 8, 12, 6), w.sell(7, 7, 12, 7)
		made := func() *book.Book { return resting(t, a, b, c, d, e, f, g) }
		for _, account := range []uint32{1, 6, 9, math.MaxUint32} {
			x := made()
			holdMass(t, x, account)
			holdAll(t, "Mass of none", x, b, c, d, a, e, f, g)
		}
		x := made()
		holdMass(t, x, 7, c, d, a, e, g)
		holdAll(t, "Mass of 7", x, b, f)
		holdMass(t, x, 7)
		holdMass(t, x, 0, b, f)
		holdAll(t, "Mass of all", x)
		x = made()
		holdMass(t, x, 8, b, f)
		holdAll(t, "Mass of 8", x, c, d, a, e, g)
		x = made()
		holdMass(t, x, 0, b, c, d, a, e, f, g)
		holdAll(t, "Mass of all", x)
		holdMass(t, x, 0)
		holdPlace(t, x, a, api.KindLimit, api.Placed{Left: 5})
		holdPlace(t, x, leaving(e, 9), api.KindLimit, api.Placed{Left: 9})
		holdAll(t, "they come again", x, a, leaving(e, 9))
	}
}

// P7.3: two full sides go at once.
func TestMassFull(t *testing.T) {
	for _, w := range ways {
		b := full(t, w)
		want := fullOrders(w)
		for i := range uint64(100) {
			o := w.sell(i+200, uint32(1+i%3), int64(500+i), 1)
			holdPlace(t, b, o, api.KindLimit, api.Placed{Left: 1})
			want = append(want, o)
		}
		holdMass(t, b, 0, want...)
		holdAll(t, "all went", b)
	}
}
