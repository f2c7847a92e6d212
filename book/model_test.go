package book_test

import (
	"math/rand"
	"slices"
	"testing"

	"broadside/api"
	"broadside/book"
)

// model is a book as the chapter's words have it: the orders as they came, and of these the first one of a side looked for each time.
type model struct{ came []api.Order }

func (m *model) copy() *model { return &model{slices.Clone(m.came)} }

func (m *model) find(number uint64) int {
	return slices.IndexFunc(m.came, func(o api.Order) bool { return o.Number == number })
}

// first tells where the best order of a side is, the one that came first of those as good; -1, if there is none.
func first(l []api.Order, buy bool) int {
	best := -1
	for i, o := range l {
		if o.Buy != buy {
			continue
		}
		if best < 0 || buy && o.Price > l[best].Price || !buy && o.Price < l[best].Price {
			best = i
		}
	}
	return best
}

// stands are the orders as they stand, those that buy ahead.
func (m *model) stands() []api.Order {
	var l []api.Order
	rest := slices.Clone(m.came)
	for _, buy := range []bool{true, false} {
		for place := first(rest, buy); place >= 0; place = first(rest, buy) {
			l = append(l, rest[place])
			rest = slices.Delete(rest, place, place+1)
		}
	}
	return l
}

// of are the orders as they stand of which what is asked is so.
func (m *model) of(ask func(o api.Order) bool) []api.Order {
	return slices.DeleteFunc(m.stands(), func(o api.Order) bool { return !ask(o) })
}

// meet does what becomes of an order that comes, one that it meets after the other, and tells what is left of it.
func (m *model) meet(o api.Order) (api.Placed, int64) {
	var p api.Placed
	for o.Left > 0 {
		place := first(m.came, !o.Buy)
		if place < 0 {
			break
		}
		x := &m.came[place]
		if o.Buy && x.Price > o.Price || !o.Buy && x.Price < o.Price {
			break
		}
		if x.Account == o.Account {
			p.Gone = append(p.Gone, x.Number)
			m.came = slices.Delete(m.came, place, place+1)
			continue
		}
		n := x.Left
		if o.Left < n {
			n = o.Left
		}
		p.Trades = append(p.Trades, api.Trade{Price: x.Price, Qty: n, Number: x.Number, Account: x.Account})
		p.Filled += n
		o.Left -= n
		x.Left -= n
		if x.Left == 0 {
			m.came = slices.Delete(m.came, place, place+1)
		}
	}
	return p, o.Left
}

// place tries the order, and refuses it by what came of that.
func (m *model) place(o api.Order, k api.Kind) (api.Placed, api.Errno) {
	if o.Number == 0 || o.Account == 0 || o.Price < 1 || o.Price > 10_000_000 || o.Left < 1 || o.Left > 1_000_000 || k < 1 || k > 4 {
		return api.Placed{}, api.ErrArg
	}
	if m.find(o.Number) >= 0 {
		return api.Placed{}, api.ErrTwice
	}
	tried := m.copy()
	p, left := tried.meet(o)
	rests := (k == api.KindLimit || k == api.KindPost) && left > 0
	switch {
	case k == api.KindAll && left > 0:
		return api.Placed{}, api.ErrAll
	case k == api.KindPost && len(p.Trades) > 0:
		return api.Placed{}, api.ErrCross
	case rests && len(m.of(func(x api.Order) bool { return x.Buy == o.Buy })) >= 100:
		return api.Placed{}, api.ErrFull
	}
	if rests {
		o.Left, p.Left = left, left
		tried.came = append(tried.came, o)
	}
	m.came = tried.came
	return p, api.OK
}

func (m *model) replace(number uint64, price, left int64) (api.Placed, api.Errno) {
	place := m.find(number)
	if place < 0 {
		return api.Placed{}, api.ErrNone
	}
	if price < 1 || price > 10_000_000 || left < 1 || left > 1_000_000 {
		return api.Placed{}, api.ErrArg
	}
	o := m.came[place]
	if o.Price == price && left <= o.Left {
		m.came[place].Left = left
		return api.Placed{Left: left}, api.OK
	}
	m.came = slices.Delete(m.came, place, place+1)
	o.Price, o.Left = price, left
	return m.place(o, api.KindLimit)
}

func (m *model) get(number uint64) (api.Order, api.Errno) {
	place := m.find(number)
	if place < 0 {
		return api.Order{}, api.ErrNone
	}
	return m.came[place], api.OK
}

func (m *model) cancel(number uint64) (api.Order, api.Errno) {
	o, e := m.get(number)
	if e == api.OK {
		m.came = slices.Delete(m.came, m.find(number), m.find(number)+1)
	}
	return o, e
}

func (m *model) mass(account uint32) []api.Order {
	goes := func(o api.Order) bool { return account == 0 || o.Account == account }
	gone := m.of(goes)
	m.came = slices.DeleteFunc(m.came, goes)
	return gone
}

func (m *model) open(account uint32) (buys, sells int64) {
	for _, o := range m.came {
		if o.Account == account && o.Buy {
			buys += o.Left
		} else if o.Account == account {
			sells += o.Left
		}
	}
	return buys, sells
}

// walk is a book and its model that go one way, by chance, and what they answered on it.
type walk struct {
	r        *rand.Rand
	b        *book.Book
	m        *model
	numbers  int   // how many numbers orders have
	prices   int64 // how many prices
	apart    bool  // whether those that buy and those that sell seldom meet
	accounts int
	seen     map[string]map[api.Errno]int
}

// fill lets so many orders come on each side as make it nearly full.
func (w *walk) fill(t *testing.T) {
	t.Helper()
	for n := range uint64(194) {
		o := api.Order{Number: n + 1, Account: 1, Buy: n%2 == 0, Price: 1 + w.r.Int63n(w.prices-1), Left: 5}
		if !o.Buy {
			o.Price += w.prices
		}
		holdPlace(t, w.b, o, api.KindLimit, api.Placed{Left: 5})
		w.m.came = append(w.m.came, o)
	}
}

// chance is an order by chance: now and then such that may not be.
func (w *walk) chance() (api.Order, api.Kind) {
	r := w.r
	o := api.Order{Number: uint64(r.Intn(w.numbers)), Account: uint32(r.Intn(w.accounts)), Buy: r.Intn(2) == 0, Price: r.Int63n(w.prices), Left: int64(r.Intn(9))}
	if w.apart && !o.Buy && r.Intn(60) > 0 {
		o.Price += w.prices
	}
	k := api.Kind(1 + r.Intn(4))
	if w.apart && r.Intn(10) > 0 {
		k = api.KindLimit
	}
	if r.Intn(30) == 0 {
		k = api.Kind(5 * r.Intn(2))
	}
	return o, k
}

// step does one thing to both.
func (w *walk) step(t *testing.T) string {
	t.Helper()
	number, r := uint64(w.r.Intn(w.numbers)), w.r
	switch r.Intn(12) {
	case 0:
		got, e := w.b.Cancel(number)
		want, wantE := w.m.cancel(number)
		holdTold(t, "Cancel", got, e, want, wantE)
		return w.saw("Cancel", e)
	case 1:
		account := uint32(r.Intn(w.accounts + 1))
		if r.Intn(8) > 0 {
			account += 1000
		}
		holdMass(t, w.b, account, w.m.mass(account)...)
		return "Mass"
	case 2, 3:
		price, left := r.Int63n(2*w.prices), int64(r.Intn(9))
		if o, e := w.m.get(number); e == api.OK && r.Intn(2) == 0 {
			price = o.Price
		}
		got, e := w.b.Replace(number, price, left)
		want, wantE := w.m.replace(number, price, left)
		holdFate(t, "Replace", got, e, want, wantE, left)
		return w.saw("Replace", e)
	}
	o, k := w.chance()
	got, e := w.b.Place(o, k)
	want, wantE := w.m.place(o, k)
	holdFate(t, "Place", got, e, want, wantE, o.Left)
	return w.saw("Place", e)
}

func (w *walk) saw(name string, e api.Errno) string {
	if w.seen[name] == nil {
		w.seen[name] = map[api.Errno]int{}
	}
	w.seen[name][e]++
	return name
}

// holdFate: that was told, or that error; trades add up to what is filled, and with what rests to at most what came.
func holdFate(t *testing.T, name string, got api.Placed, e api.Errno, want api.Placed, wantE api.Errno, came int64) {
	t.Helper()
	if e != wantE || !same(got, want) {
		t.Errorf("%s: %+v, error %d; want %+v, error %d", name, got, e, want, wantE)
	}
	sum := int64(0)
	for _, x := range got.Trades {
		sum += x.Qty
	}
	if e == api.OK && (sum != got.Filled || got.Left < 0 || sum+got.Left > came) {
		t.Errorf("%s: of %d came %+v", name, came, got)
	}
}

// hold: both are the same, whatever is asked.
func (w *walk) hold(t *testing.T, name string) {
	t.Helper()
	holdAll(t, name, w.b, w.m.stands()...)
	account, number := uint32(w.r.Intn(w.accounts+1)), uint64(w.r.Intn(w.numbers))
	buys, sells := w.m.open(account)
	holdOpen(t, w.b, account, buys, sells)
	o, e := w.m.get(number)
	holdGet(t, w.b, number, o, e)
	if t.Failed() {
		t.FailNow()
	}
}

// turn goes on, now and then, with a copy, while the one left behind is changed.
func (w *walk) turn(t *testing.T) {
	t.Helper()
	if w.r.Intn(20) != 0 {
		return
	}
	second, other := w.b.Copy(), w.m.copy()
	for range 5 {
		w.step(t)
	}
	w.hold(t, "the one left behind")
	w.b, w.m = second, other
	w.hold(t, "the copy")
}

// P7.1 to P7.5: whatever is asked in whatever order, books answer what the words say, as do copies of them.
func TestAsTheModel(t *testing.T) {
	r := rand.New(rand.NewSource(71))
	seen := map[string]map[api.Errno]int{}
	for i := range 120 {
		w := &walk{r: r, b: book.New(), m: &model{}, seen: seen}
		w.numbers, w.prices, w.accounts = []int{12, 60, 600}[i%3], int64([]int{4, 20, 8}[i%3]), []int{3, 6, 4}[i%3]
		if w.apart = i%3 == 2; w.apart {
			w.fill(t)
		}
		for range 400 {
			w.hold(t, w.step(t))
			w.turn(t)
		}
	}
	for name, l := range map[string][]api.Errno{
		"Place":   {api.OK, api.ErrArg, api.ErrTwice, api.ErrAll, api.ErrCross, api.ErrFull},
		"Replace": {api.OK, api.ErrNone, api.ErrArg}, "Cancel": {api.OK, api.ErrNone},
	} {
		for _, e := range l {
			if seen[name][e] == 0 {
				t.Errorf("%s never answered %d", name, e)
			}
		}
	}
}
