package book_test

import (
	"math"
	"slices"
	"testing"

	"broadside/api"
	"broadside/book"
)

// sample are orders of three accounts on both sides, as they come; sampleStands, as they stand.
func sample(w way) []api.Order {
	return []api.Order{
		w.buy(1, 7, 10, 1), w.buy(2, 8, 11, 2), w.buy(3, 7, 10, 4), w.buy(4, 9, 11, 8),
		w.sell(5, 7, 13, 16), w.sell(6, 8, 12, 32), w.sell(7, math.MaxUint32, 12, 64), w.sell(8, 7, 12, 128),
	}
}

func sampleStands(w way) []api.Order {
	l := sample(w)
	return inOrder([]api.Order{l[1], l[3], l[0], l[2], l[5], l[6], l[7], l[4]})
}

// P7.4: how much is left in an account's orders, on each side.
func TestOpen(t *testing.T) {
	for _, w := range ways {
		holdWay := func(b *book.Book, account uint32, buys, sells int64) {
			t.Helper()
			if w {
				buys, sells = sells, buys
			}
			holdOpen(t, b, account, buys, sells)
		}
		b := resting(t, sample(w)...)
		holdWay(b, 7, 5, 144)
		holdWay(b, 8, 2, 32)
		holdWay(b, 9, 8, 0)
		holdWay(b, math.MaxUint32, 0, 64)
		holdWay(b, 0, 0, 0)
		holdWay(b, 1, 0, 0)
		holdReplace(t, b, 3, w.price(10), 3, api.Placed{Left: 3})
		holdWay(b, 7, 4, 144)
		holdPlace(t, b, w.buy(9, 9, 12, 33), api.KindLimit, api.Placed{Trades: []api.Trade{w.trade(sample(w)[5], 32), w.trade(sample(w)[6], 1)}, Filled: 33})
		holdWay(b, 8, 2, 0)
		holdWay(b, math.MaxUint32, 0, 63)
		holdWay(b, 9, 8, 0)
		holdMass(t, b, 7, w.buy(1, 7, 10, 1), w.buy(3, 7, 10, 3), w.sell(8, 7, 12, 128), w.sell(5, 7, 13, 16))
		holdWay(b, 7, 0, 0)
		holdWay(b, 8, 2, 0)
	}
}

// P7.4: as much as may stand on both sides is added up.
func TestOpenMost(t *testing.T) {
	b := book.New()
	for n := range uint64(100) {
		holdPlace(t, b, way(false).buy(n+1, 7, 10, 1_000_000), api.KindLimit, api.Placed{Left: 1_000_000})
		holdPlace(t, b, way(false).sell(n+101, 7, 11, 1_000_000), api.KindLimit, api.Placed{Left: 1_000_000})
	}
	holdOpen(t, b, 7, 100_000_000, 100_000_000)
	holdOpen(t, b, 8, 0, 0)
}

// P7.4: those that buy are told ahead, each side as it stands when it is told, again and again.
func TestAll(t *testing.T) {
	for _, w := range ways {
		b := book.New()
		all := b.All()
		if got := slices.Collect(all); len(got) != 0 {
			t.Errorf("told are %v", got)
		}
		for i, o := range sample(w) {
			holdPlace(t, b, o, api.KindLimit, api.Placed{Left: o.Left})
			if got := slices.Collect(all); len(got) != i+1 {
				t.Errorf("told are %v", got)
			}
		}
		for range 2 {
			if got := slices.Collect(all); !slices.Equal(got, sampleStands(w)) {
				t.Errorf("told are %v", got)
			}
		}
		var got []api.Order
		for range b.All() {
			got = append(got, slices.Collect(b.All())...)
		}
		if !slices.Equal(got, slices.Repeat(sampleStands(w), 8)) {
			t.Errorf("told within are %v", got)
		}
	}
}

// P7.4: whoever breaks off is told no more, neither of that side nor of the other one.
func TestAllBrokenOff(t *testing.T) {
	for _, w := range ways {
		b := resting(t, sample(w)...)
		want := sampleStands(w)
		for n := 1; n <= len(want); n++ {
			var got []api.Order
			b.All()(func(o api.Order) bool {
				got = append(got, o)
				return len(got) < n
			})
			if !slices.Equal(got, want[:n]) {
				t.Errorf("broken off behind %d: %v, want %v", n, got, want[:n])
			}
		}
		holdAll(t, "broken off", b, want...)
	}
}

// P7.4: what comes, goes or has less left while orders are told is told as it stands then.
func TestAllInBetween(t *testing.T) {
	w := way(false)
	l := sample(w)
	b := resting(t, l...)
	var got []api.Order
	for o := range b.All() {
		got = append(got, o)
		switch o.Number {
		case 2:
			holdCancel(t, b, 4, l[3], api.OK)
			holdCancel(t, b, 6, l[5], api.OK)
			holdReplace(t, b, 3, 10, 3, api.Placed{Left: 3})
		case 3:
			holdMass(t, b, 8, l[1])
			holdPlace(t, b, w.buy(9, 9, 12, 65), api.KindNow, api.Placed{Trades: []api.Trade{w.trade(l[6], 64), w.trade(l[7], 1)}, Filled: 65})
			holdPlace(t, b, w.sell(10, 9, 12, 5), api.KindPost, api.Placed{Left: 5})
		case 8:
			holdPlace(t, b, w.sell(11, 9, 13, 5), api.KindPost, api.Placed{Left: 5})
		}
	}
	want := []api.Order{l[1], l[0], leaving(l[2], 3), leaving(l[7], 127), w.sell(10, 9, 12, 5), l[4], w.sell(11, 9, 13, 5)}
	if !slices.Equal(got, want) {
		t.Errorf("told are %v, want %v", got, want)
	}
	holdAll(t, "then", b, want[1:]...)
}

// P7.4: a copy is the same, and each of both goes its own way, on both sides.
func TestCopy(t *testing.T) {
	for _, w := range ways {
		l := sample(w)
		first := resting(t, l...)
		second := first.Copy()
		holdAll(t, "the copy", second, sampleStands(w)...)
		change := func(b *book.Book) {
			holdReplace(t, b, 2, w.price(11), 1, api.Placed{Left: 1})
			holdPlace(t, b, w.buy(9, 9, 12, 33), api.KindLimit, api.Placed{Trades: []api.Trade{w.trade(l[5], 32), w.trade(l[6], 1)}, Filled: 33})
			holdPlace(t, b, w.sell(9, 9, 11, 2), api.KindLimit, api.Placed{Trades: []api.Trade{w.trade(l[1], 1)}, Gone: []uint64{4}, Filled: 1, Left: 1})
			holdPlace(t, b, w.buy(10, 8, 9, 5), api.KindLimit, api.Placed{Left: 5})
			holdCancel(t, b, 5, l[4], api.OK)
		}
		changed := []api.Order{l[0], l[2], w.buy(10, 8, 9, 5), w.sell(9, 9, 11, 1), leaving(l[6], 63), l[7]}
		change(second)
		holdAll(t, "the first, when the copy has changed", first, sampleStands(w)...)
		third := first.Copy()
		change(first)
		holdAll(t, "the first, changed", first, changed...)
		holdAll(t, "the copy, changed", second, changed...)
		holdAll(t, "a copy of when it had not changed", third, sampleStands(w)...)
		holdPlace(t, first, w.buy(20, 5, 10, 5), api.KindLimit, api.Placed{Left: 5})
		holdMass(t, second, 0, changed...)
		holdGet(t, second, 20, api.Order{}, api.ErrNone)
		holdGet(t, first, 20, w.buy(20, 5, 10, 5), api.OK)
		holdGet(t, first, 7, leaving(l[6], 63), api.OK)
		holdAll(t, "the copy, without orders", second.Copy())
		holdAll(t, "a copy of a new one", book.New().Copy())
		holdPlace(t, book.New().Copy(), l[0], api.KindLimit, api.Placed{Left: 1})
		holdPlace(t, book.New().Copy(), l[4], api.KindLimit, api.Placed{Left: 16})
	}
}

// R2: what was answered may be written over.
func TestAnswersAreNew(t *testing.T) {
	w := way(false)
	l := sample(w)
	b := resting(t, l...)
	p, _ := b.Place(w.buy(9, 7, 12, 40), api.KindNow)
	q, _ := b.Place(w.buy(9, 7, 12, 57), api.KindLimit)
	want := api.Placed{Trades: []api.Trade{w.trade(l[6], 56)}, Gone: []uint64{8}, Filled: 56, Left: 1}
	clear(p.Trades)
	clear(p.Gone)
	holdPlaced(t, "another one's answer written over", q, api.OK, want)
	clear(q.Trades)
	clear(q.Gone)
	one, _ := b.Get(1)
	one.Left = 100
	for o := range b.All() {
		o.Left, o.Price = 1, 1
	}
	clear(slices.Collect(b.All()))
	clear(b.Mass(8))
	holdAll(t, "answers written over", b, w.buy(9, 7, 12, 1), l[3], l[0], l[2], l[4])
}
