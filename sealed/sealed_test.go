package sealed_test

import (
	"math"
	"slices"
	"testing"

	"broadside/api"
	"broadside/sealed"
)

const (
	least    = math.MinInt64
	greatest = math.MaxInt64
)

// way is how an auction goes: it sells, as it is written, or is turned round: it buys, and the best price is the worst.
type way bool

// ways are both.
var ways = []way{false, true}

// sells tells whether the auction does.
func (w way) sells() bool { return !bool(w) }

// price turns one.
func (w way) price(p int64) int64 {
	if w && p >= 1 && p <= 10_000_000 {
		return 10_000_001 - p
	}
	return p
}

// bid is one of an account that is not its number.
func (w way) bid(number uint64, price, left int64) api.Order {
	return api.Order{Number: number, Account: uint32(number%8) + 1, Buy: w.sells(), Price: w.price(price), Left: left}
}

// got is what that bid got.
func got(o api.Order, qty int64) api.Fill {
	return api.Fill{Number: o.Number, Account: o.Account, Qty: qty}
}

// holdCleared: that was told, and no error.
func holdCleared(t *testing.T, name string, w way, qty int64, bids []api.Order, wantPrice int64, want ...api.Fill) {
	t.Helper()
	price, fills, e := sealed.Clear(w.sells(), qty, bids)
	if e != api.OK || price != w.price(wantPrice) || !slices.Equal(fills, want) {
		t.Errorf("%s: Clear %d: %d, %v, error %d; want %d, %v", name, qty, price, fills, e, w.price(wantPrice), want)
	}
}

// holdRefused: that error was told, and nothing else.
func holdRefused(t *testing.T, name string, w way, qty int64, bids []api.Order, want api.Errno) {
	t.Helper()
	price, fills, e := sealed.Clear(w.sells(), qty, bids)
	if price != 0 || len(fills) != 0 || e != want {
		t.Errorf("%s: Clear %d: %d, %v, error %d; want error %d", name, qty, price, fills, e, want)
	}
}

// many are so many bids at one price, of falling numbers, five left each.
func many(w way, n int) []api.Order {
	var l []api.Order
	for i := range n {
		l = append(l, w.bid(uint64(1000-i), 10, 5))
	}
	return l
}

// P8.1: the examples of the chapter, with whatever quantity there is.
func TestClear(t *testing.T) {
	for _, w := range ways {
		a, b, c := w.bid(1, 10, 5), w.bid(2, 12, 5), w.bid(3, 10, 5)
		l := []api.Order{a, b, c}
		for _, x := range []struct {
			qty, price int64
			fills      []api.Fill
		}{
			{1, 12, []api.Fill{got(b, 1)}},
			{4, 12, []api.Fill{got(b, 4)}},
			{5, 12, []api.Fill{got(b, 5)}},
			{6, 10, []api.Fill{got(b, 5), got(a, 1)}},
			{7, 10, []api.Fill{got(b, 5), got(a, 2)}},
			{10, 10, []api.Fill{got(b, 5), got(a, 5)}},
			{11, 10, []api.Fill{got(b, 5), got(a, 5), got(c, 1)}},
			{15, 10, []api.Fill{got(b, 5), got(a, 5), got(c, 5)}},
			{16, 10, []api.Fill{got(b, 5), got(a, 5), got(c, 5)}},
			{100, 10, []api.Fill{got(b, 5), got(a, 5), got(c, 5)}},
			{10_000_000, 10, []api.Fill{got(b, 5), got(a, 5), got(c, 5)}},
		} {
			holdCleared(t, "the examples", w, x.qty, l, x.price, x.fills...)
		}
	}
}

// P8.1: one price is asked of all: that of the last bid that gets something, and no worse one that would fill no more.
func TestClearPrice(t *testing.T) {
	for _, w := range ways {
		l := []api.Order{w.bid(1, 3, 7), w.bid(2, 9_999_999, 1), w.bid(3, 500, 2), w.bid(4, 10_000_000, 3), w.bid(5, 1, 9), w.bid(6, 499, 4)}
		all := []api.Fill{got(l[3], 3), got(l[1], 1), got(l[2], 2), got(l[5], 4), got(l[0], 7), got(l[4], 9)}
		for _, x := range []struct {
			qty, price int64
			fills      int
		}{{3, 10_000_000, 1}, {4, 9_999_999, 2}, {6, 500, 3}, {10, 499, 4}, {17, 3, 5}, {26, 1, 6}, {27, 1, 6}} {
			holdCleared(t, "six prices", w, x.qty, l, x.price, all[:x.fills]...)
		}
		holdCleared(t, "six prices", w, 5, l, 500, got(l[3], 3), got(l[1], 1), got(l[2], 1))
		holdCleared(t, "six prices", w, 18, l, 1, append(slices.Clone(all[:5]), got(l[4], 1))...)
		holdCleared(t, "one bid", w, 1, l[5:], 499, got(l[5], 1))
		holdCleared(t, "one bid, all it has", w, 4, l[5:], 499, got(l[5], 4))
		holdCleared(t, "one bid, less than is asked", w, 5, l[5:], 499, got(l[5], 4))
		same := []api.Order{w.bid(1, 7, 5), w.bid(2, 7, 5), w.bid(3, 7, 5)}
		for i := range same {
			same[i].Account = 4
		}
		holdCleared(t, "three bids of one account", w, 11, same, 7, got(same[0], 5), got(same[1], 5), got(same[2], 1))
	}
}

// P8.1: without a bid nothing is filled, at no price.
func TestClearWithoutBids(t *testing.T) {
	for _, w := range ways {
		for _, l := range [][]api.Order{nil, {}} {
			holdRefused(t, "no bid", w, 1, l, api.OK)
			holdRefused(t, "no bid", w, 10_000_000, l, api.OK)
			holdRefused(t, "no bid", w, 0, l, api.ErrArg)
			holdRefused(t, "no bid", w, 10_000_001, l, api.ErrArg)
		}
	}
}

// P8.1: of one price it counts who came first, not whose number is less, however many they are.
func TestClearTime(t *testing.T) {
	for _, w := range ways {
		for _, n := range []int{2, 12, 13, 50} {
			l := many(w, n)
			var want []api.Fill
			for _, o := range l {
				want = append(want, got(o, 5))
			}
			holdCleared(t, "one price", w, int64(5*n), l, 10, want...)
			want[n-1].Qty = 1
			holdCleared(t, "one price", w, int64(5*n-4), l, 10, want...)
		}
		l := many(w, 50)
		var ahead, behind []api.Fill
		for i := range l {
			if i%3 == 1 {
				l[i].Price = w.price(11)
				ahead = append(ahead, got(l[i], 5))
			} else {
				behind = append(behind, got(l[i], 5))
			}
		}
		holdCleared(t, "two prices", w, 250, l, 10, append(ahead, behind...)...)
	}
}

// P8.1: fifty bids may be, one more not, whatever else may not be.
func TestClearLong(t *testing.T) {
	for _, w := range ways {
		l := many(w, 51)
		holdCleared(t, "fifty", w, 5, l[:50], 10, got(l[0], 5))
		holdRefused(t, "fifty-one", w, 5, l, api.ErrLong)
		holdRefused(t, "fifty-one and no quantity", w, 0, l, api.ErrLong)
		holdRefused(t, "fifty-one and too much", w, 10_000_001, l, api.ErrLong)
		holdRefused(t, "fifty-one of the other way", !w, 5, l, api.ErrLong)
		holdRefused(t, "many zero ones", w, 5, make([]api.Order, 100_000), api.ErrLong)
		l[50] = l[0]
		holdRefused(t, "fifty-one, two of one number", w, 5, l, api.ErrLong)
	}
}

// P8.1: the quantity is 1 to 10,000,000.
func TestClearQty(t *testing.T) {
	for _, w := range ways {
		l := []api.Order{w.bid(1, 10, 5)}
		for _, qty := range []int64{0, -1, -5, least, 10_000_001, greatest} {
			holdRefused(t, "a quantity that may not be", w, qty, l, api.ErrArg)
		}
		holdCleared(t, "the least", w, 1, l, 10, got(l[0], 1))
		holdCleared(t, "the most", w, 10_000_000, l, 10, got(l[0], 5))
	}
}

// P8.1: each bid must be one that may be, and of the other side: one that is not is found wherever it stands.
func TestClearBidsThatMayNotBe(t *testing.T) {
	for _, w := range ways {
		good := []api.Order{w.bid(1, 10, 5), w.bid(2, 12, 5), w.bid(3, 10, 5)}
		account0 := w.bid(9, 10, 5)
		account0.Account = 0
		for _, x := range []struct {
			name string
			o    api.Order
		}{
			{"the zero order", api.Order{}},
			{"the number 0", w.bid(0, 10, 5)},
			{"the account 0", account0},
			{"the price 0", w.bid(9, 0, 5)},
			{"a price below 0", w.bid(9, -1, 5)},
			{"the least price", w.bid(9, least, 5)},
			{"a price too high", w.bid(9, 10_000_001, 5)},
			{"the greatest price", w.bid(9, greatest, 5)},
			{"nothing left", w.bid(9, 10, 0)},
			{"less than nothing left", w.bid(9, 10, -1)},
			{"the least left", w.bid(9, 10, least)},
			{"too much left", w.bid(9, 10, 1_000_001)},
			{"the most left", w.bid(9, 10, greatest)},
			{"of the auction's own side", (!w).bid(9, 10, 5)},
		} {
			holdRefused(t, x.name, w, 1, []api.Order{x.o}, api.ErrArg)
			for place := range 4 {
				l := slices.Insert(slices.Clone(good), place, x.o)
				holdRefused(t, x.name, w, 1, l, api.ErrArg)
				holdRefused(t, x.name, w, 100, l, api.ErrArg)
			}
		}
		holdRefused(t, "all of the auction's own side", !w, 5, good, api.ErrArg)
	}
}

// P8.1: two bids of one number may not be, wherever they stand and whatever else they have.
func TestClearTwice(t *testing.T) {
	for _, w := range ways {
		for first := range 50 {
			for second := range first {
				l := many(w, 50)
				l[first] = w.bid(l[second].Number, 17, 3)
				l[first].Account = 99
				holdRefused(t, "two of one number", w, 1, l, api.ErrArg)
			}
		}
		l := []api.Order{w.bid(1, 10, 5), w.bid(1+1<<32, 10, 5), w.bid(1+1<<63, 10, 5), w.bid(math.MaxUint64, 10, 5)}
		holdCleared(t, "numbers that are like in their last bits", w, 20, l, 10, got(l[0], 5), got(l[1], 5), got(l[2], 5), got(l[3], 5))
		for _, o := range l {
			holdRefused(t, "a number of many bits twice", w, 20, append(slices.Clone(l), w.bid(o.Number, 12, 4)), api.ErrArg)
		}
	}
}

// P8.1: each number of a bid may be from its least to its greatest; as much as there may be at most is added up.
func TestClearBounds(t *testing.T) {
	for _, w := range ways {
		a := api.Order{Number: math.MaxUint64, Account: math.MaxUint32, Buy: w.sells(), Price: 10_000_000, Left: 1_000_000}
		b := api.Order{Number: 1, Account: 1, Buy: w.sells(), Price: 1, Left: 1}
		first, last := a, b
		if w {
			first, last = b, a
		}
		l := []api.Order{a, b}
		price, fills, e := sealed.Clear(w.sells(), 10_000_000, l)
		if e != api.OK || price != last.Price || !slices.Equal(fills, []api.Fill{got(first, first.Left), got(last, last.Left)}) {
			t.Errorf("the bounds: %d, %v, error %d", price, fills, e)
		}
		great := many(w, 50)
		for i := range great {
			great[i].Left = 1_000_000
		}
		var want []api.Fill
		for _, o := range great[:10] {
			want = append(want, got(o, 1_000_000))
		}
		holdCleared(t, "the most", w, 10_000_000, great, 10, want...)
		want[9].Qty = 999_999
		holdCleared(t, "the most but one", w, 9_999_999, great, 10, want...)
	}
}

// R2, R4: the bids are not written to, and not kept; what was answered may be written over.
func TestClearKeepsNothing(t *testing.T) {
	for _, w := range ways {
		l := []api.Order{w.bid(1, 10, 5), w.bid(2, 12, 5), w.bid(3, 10, 5), w.bid(4, 13, 1)}
		was := slices.Clone(l)
		_, fills, _ := sealed.Clear(w.sells(), 12, l[:3])
		want := slices.Clone(fills)
		if !slices.Equal(l, was) {
			t.Errorf("the bids are %v, were %v", l, was)
		}
		holdCleared(t, "again", w, 12, l[:3], 10, want...)
		clear(l)
		if !slices.Equal(fills, want) {
			t.Errorf("the bids written over, the fills are %v", fills)
		}
		clear(fills)
		holdCleared(t, "answers written over", w, 12, was[:3], 10, want...)
	}
}
