package sealed_test

import (
	"math/rand"
	"slices"
	"testing"

	"broadside/api"
	"broadside/sealed"
)

// good tells whether a bid's price is p or better for the auction.
func good(o api.Order, sells bool, p int64) bool {
	if sells {
		return o.Price >= p
	}
	return o.Price <= p
}

// filled is how much is filled at a price.
func filled(sells bool, qty int64, bids []api.Order, p int64) int64 {
	sum := int64(0)
	for _, o := range bids {
		if good(o, sells, p) {
			sum += o.Left
		}
	}
	return min(sum, qty)
}

// model is an auction as the chapter's words have it: of all bids' prices those at which the most is filled, the best of these looked for; then the best bid looked for each time.
func model(sells bool, qty int64, bids []api.Order) (int64, []api.Fill) {
	price, most := int64(0), int64(0)
	for _, o := range bids {
		n := filled(sells, qty, bids, o.Price)
		better := sells && o.Price > price || !sells && o.Price < price
		if n > most || n == most && better {
			price, most = o.Price, n
		}
	}
	var fills []api.Fill
	rest := slices.DeleteFunc(slices.Clone(bids), func(o api.Order) bool { return !good(o, sells, price) })
	for len(rest) > 0 && most > 0 {
		best := 0
		for i, o := range rest {
			if sells && o.Price > rest[best].Price || !sells && o.Price < rest[best].Price {
				best = i
			}
		}
		n := min(rest[best].Left, most)
		fills = append(fills, got(rest[best], n))
		most -= n
		rest = slices.Delete(rest, best, best+1)
	}
	return price, fills
}

// chance are bids by chance, of so many prices.
func chance(r *rand.Rand, sells bool, prices, most int64) []api.Order {
	var l []api.Order
	for _, n := range r.Perm(r.Intn(51)) {
		l = append(l, api.Order{Number: uint64(n) + 1, Account: uint32(1 + r.Intn(5)), Buy: sells, Price: 1 + r.Int63n(prices), Left: 1 + r.Int63n(most)})
	}
	return l
}

// auctions lets some go by chance, which sell and which buy; of each as much is asked as there is, or less, or more.
func auctions(t *testing.T, seed int64, each func(r *rand.Rand, sells bool, qty int64, bids []api.Order)) {
	r := rand.New(rand.NewSource(seed))
	for i := range 6000 {
		sells := i%2 == 0
		l := chance(r, sells, []int64{1, 3, 20, 10_000_000}[i/2%4], []int64{1, 9, 1_000_000}[i/8%3])
		sum := int64(0)
		for _, o := range l {
			sum += o.Left
		}
		qty := 1 + r.Int63n(sum+sum/4+2)
		if r.Intn(8) == 0 {
			qty = sum
		}
		if qty >= 1 && qty <= 10_000_000 {
			each(r, sells, qty, l)
		}
		if t.Failed() {
			return
		}
	}
}

// P8.1: whatever is bid, auctions answer what the words say.
func TestAsTheModel(t *testing.T) {
	part, whole := 0, 0
	auctions(t, 81, func(r *rand.Rand, sells bool, qty int64, bids []api.Order) {
		price, fills, e := sealed.Clear(sells, qty, bids)
		wantPrice, want := model(sells, qty, bids)
		if e != api.OK || price != wantPrice || !slices.Equal(fills, want) {
			t.Errorf("sells %v %d, %v: %d, %v, error %d; want %d, %v", sells, qty, bids, price, fills, e, wantPrice, want)
		}
		if len(fills) < len(bids) {
			part++
		} else if len(bids) > 0 {
			whole++
		}
	})
	if part == 0 || whole == 0 {
		t.Errorf("%d auctions left bids out, %d none", part, whole)
	}
}

// byNumber are bids by their numbers.
func byNumber(bids []api.Order) map[uint64]api.Order {
	m := map[uint64]api.Order{}
	for _, o := range bids {
		m[o.Number] = o
	}
	return m
}

// P8.2: what is filled is the quantity, or all there is; nobody pays more, or gets less, than its own price.
func TestFilled(t *testing.T) {
	auctions(t, 82, func(r *rand.Rand, sells bool, qty int64, bids []api.Order) {
		price, fills, _ := sealed.Clear(sells, qty, bids)
		of, sum, there := byNumber(bids), int64(0), int64(0)
		for _, o := range bids {
			there += o.Left
		}
		for _, f := range fills {
			o, known := of[f.Number]
			if !known || f.Account != o.Account || f.Qty < 1 || f.Qty > o.Left || !good(o, sells, price) {
				t.Errorf("%v got %v at %d", o, f, price)
			}
			sum += f.Qty
			delete(of, f.Number)
		}
		if sum != min(qty, there) {
			t.Errorf("of %d asked and %d there %d was filled", qty, there, sum)
		}
	})
}

// P8.2: of a bid that is not wholly filled, and one that got something, the one that got is better, or as good and came ahead.
func TestNobodyIsPassedOver(t *testing.T) {
	auctions(t, 83, func(r *rand.Rand, sells bool, qty int64, bids []api.Order) {
		_, fills, _ := sealed.Clear(sells, qty, bids)
		has := map[uint64]int64{}
		for _, f := range fills {
			has[f.Number] += f.Qty
		}
		for i, short := range bids {
			if has[short.Number] == short.Left {
				continue
			}
			for j, o := range bids {
				ahead := !good(short, sells, o.Price) || o.Price == short.Price && j < i
				if i != j && has[o.Number] > 0 && !ahead {
					t.Errorf("%v got something, %v was passed over", o, short)
				}
			}
		}
	})
}

// P8.2: a bid more that is as good as the price, or better, never makes the price worse.
func TestOneBidMore(t *testing.T) {
	auctions(t, 84, func(r *rand.Rand, sells bool, qty int64, bids []api.Order) {
		price, _, _ := sealed.Clear(sells, qty, bids)
		if len(bids) == 0 || len(bids) == 50 {
			return
		}
		more := api.Order{Number: 99, Account: 7, Buy: sells, Price: price + r.Int63n(3), Left: 1 + r.Int63n(1_000_000)}
		if !sells {
			more.Price = max(price-r.Int63n(3), 1)
		}
		more.Price = min(more.Price, 10_000_000)
		then, _, e := sealed.Clear(sells, qty, slices.Insert(slices.Clone(bids), r.Intn(len(bids)+1), more))
		if worse := sells && then < price || !sells && then > price; e != api.OK || worse {
			t.Errorf("sells %v %d, %v: %d; with %v %d, error %d", sells, qty, bids, price, more, then, e)
		}
	})
}
