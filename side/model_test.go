package side_test

import (
	"math/rand"
	"slices"
	"testing"

	"broadside/api"
	"broadside/side"
)

// model is a side as the chapter's words have it: the orders as they came, and of these the first one looked for each time.
type model struct {
	buy  bool
	came []api.Order
}

// sorted are the orders as they stand: again and again who has the best price of those that are left, the one ahead of two alike.
func (m *model) sorted() []api.Order {
	var l []api.Order
	rest := slices.Clone(m.came)
	for len(rest) > 0 {
		best := 0
		for i, o := range rest {
			if m.buy && o.Price > rest[best].Price || !m.buy && o.Price < rest[best].Price {
				best = i
			}
		}
		l = append(l, rest[best])
		rest = slices.Delete(rest, best, best+1)
	}
	return l
}

func (m *model) copy() *model { return &model{m.buy, slices.Clone(m.came)} }

func (m *model) find(number uint64) int {
	for i, o := range m.came {
		if o.Number == number {
			return i
		}
	}
	return -1
}

func (m *model) add(o api.Order) api.Errno {
	priced := o.Price >= 1 && o.Price <= 10_000_000
	if o.Number == 0 || o.Account == 0 || !priced || o.Left < 1 || o.Left > 1_000_000 || o.Buy != m.buy {
		return api.ErrArg
	}
	if m.find(o.Number) >= 0 {
		return api.ErrTwice
	}
	if len(m.came) == 100 {
		return api.ErrFull
	}
	m.came = append(m.came, o)
	return api.OK
}

func (m *model) fill(n int64) (api.Order, api.Errno) {
	if len(m.came) == 0 {
		return api.Order{}, api.ErrNone
	}
	o := m.sorted()[0]
	if n < 1 || n > o.Left {
		return api.Order{}, api.ErrArg
	}
	place := m.find(o.Number)
	o.Left -= n
	m.came[place] = o
	if o.Left == 0 {
		m.came = slices.Delete(m.came, place, place+1)
	}
	return o, api.OK
}

func (m *model) get(number uint64) (api.Order, api.Errno) {
	place := m.find(number)
	if place < 0 {
		return api.Order{}, api.ErrNone
	}
	return m.came[place], api.OK
}

func (m *model) drop(number uint64) (api.Order, api.Errno) {
	o, e := m.get(number)
	if e == api.OK {
		place := m.find(number)
		m.came = slices.Delete(m.came, place, place+1)
	}
	return o, e
}

func (m *model) lower(number uint64, left int64) api.Errno {
	o, e := m.get(number)
	if e != api.OK {
		return e
	}
	if left < 1 || left > o.Left {
		return api.ErrArg
	}
	m.came[m.find(number)].Left = left
	return api.OK
}

func (m *model) reach(price int64, not uint32) int64 {
	var sum int64
	for _, o := range m.came {
		good := o.Price <= price
		if m.buy {
			good = o.Price >= price
		}
		if good && o.Account != not {
			sum += o.Left
		}
	}
	return sum
}

// chance is an order by chance: now and then such that may not be, or goes the other way.
func chance(r *rand.Rand, buy bool, most int) api.Order {
	o := api.Order{Number: uint64(r.Intn(most)), Account: uint32(r.Intn(12)), Buy: buy, Price: int64(r.Intn(14)), Left: int64(r.Intn(9))}
	if r.Intn(20) == 0 {
		o.Buy = !buy
	}
	return o
}

// step does one thing to both, and answers what both told.
func step(r *rand.Rand, s *side.Side, m *model, most int) (name string, got, want api.Order, e, wantE api.Errno) {
	number, n := uint64(r.Intn(most)), int64(r.Intn(8)-1)
	switch r.Intn(8) {
	case 0:
		got, e = s.Fill(n)
		want, wantE = m.fill(n)
		return "Fill", got, want, e, wantE
	case 1:
		got, e = s.Drop(number)
		want, wantE = m.drop(number)
		return "Drop", got, want, e, wantE
	case 2:
		return "Lower", got, want, s.Lower(number, n), m.lower(number, n)
	case 3:
		got, e = s.Get(number)
		want, wantE = m.get(number)
		return "Get", got, want, e, wantE
	}
	o := chance(r, m.buy, most)
	return "Add", got, want, s.Add(o), m.add(o)
}

// P6.1 to P6.4: whatever is asked in whatever order, sides answer what the words say, as do copies of them.
func TestAsTheModel(t *testing.T) {
	r := rand.New(rand.NewSource(61))
	seen := map[string]map[api.Errno]int{}
	for i := range 160 {
		buy, most := i%2 == 0, []int{6, 40, 400}[i%3]
		s, m := side.New(buy), &model{buy: buy}
		for range 400 {
			name, got, want, e, wantE := step(r, s, m, most)
			holdTold(t, name, got, e, want, wantE)
			if seen[name] == nil {
				seen[name] = map[api.Errno]int{}
			}
			seen[name][e]++
			holdAll(t, name, s, m.sorted()...)
			price, not := int64(r.Intn(16)-1), uint32(r.Intn(12))
			holdReach(t, s, price, not, m.reach(price, not))
			s, m = turn(t, r, s, m, most)
			if t.Failed() {
				t.FailNow()
			}
		}
	}
	holdSeen(t, seen)
}

// turn goes on, now and then, with a copy, while the one left behind is changed.
func turn(t *testing.T, r *rand.Rand, s *side.Side, m *model, most int) (*side.Side, *model) {
	t.Helper()
	if r.Intn(20) != 0 {
		return s, m
	}
	second, other := s.Copy(), m.copy()
	for range 5 {
		step(r, s, m, most)
	}
	holdAll(t, "the one left behind", s, m.sorted()...)
	holdAll(t, "the copy", second, other.sorted()...)
	return second, other
}

// holdSeen: each call answered each of its errors, so that chance left none out.
func holdSeen(t *testing.T, seen map[string]map[api.Errno]int) {
	t.Helper()
	for name, l := range map[string][]api.Errno{
		"Add": {api.OK, api.ErrArg, api.ErrTwice, api.ErrFull}, "Fill": {api.OK, api.ErrNone, api.ErrArg},
		"Drop": {api.OK, api.ErrNone}, "Lower": {api.OK, api.ErrNone, api.ErrArg}, "Get": {api.OK, api.ErrNone},
	} {
		for _, e := range l {
			if seen[name][e] == 0 {
				t.Errorf("%s never answered %d", name, e)
			}
		}
	}
}

// What follows: of all pairs the one ahead is better, or as good and came ahead.
func TestNobodyIsPassedOver(t *testing.T) {
	r := rand.New(rand.NewSource(62))
	for i := range 50 {
		buy := i%2 == 0
		s := side.New(buy)
		for n := range uint64(100) {
			hold(t, "Add", s.Add(order(buy, n+1, int64(1+r.Intn(10)), int64(1+r.Intn(5)))), api.OK)
		}
		var last api.Order
		for {
			o, there := s.Best()
			if !there {
				break
			}
			better := buy && o.Price > last.Price || !buy && o.Price < last.Price
			if last.Number != 0 && (better || o.Price == last.Price && o.Number < last.Number) {
				t.Fatalf("%v was passed over by %v", o, last)
			}
			holdFill(t, s, o.Left, leaving(o, 0), api.OK)
			last = o
		}
		if s.Len() != 0 {
			t.Errorf("Len %d", s.Len())
		}
	}
}
