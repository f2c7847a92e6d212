package side

import (
	"slices"

	"broadside/api"
)

// missing tells whether the side is not there, or a zero one.
func (s *Side) missing() bool { return s == nil || !s.made }

// better tells whether the price a is better than b.
func (s *Side) better(a, b int64) bool {
	if s.buy {
		return a > b
	}
	return a < b
}

// ahead tells whether a stands ahead of b.
func (s *Side) ahead(a, b stood) bool {
	if a.order.Price == b.order.Price {
		return a.came < b.came
	}
	return s.better(a.order.Price, b.order.Price)
}

// first answers who stands first, and whether there is one.
func (s *Side) first() (stood, bool) {
	if s.missing() || len(s.orders) == 0 {
		return stood{}, false
	}
	return s.orders[0], true
}

// behind answers the first one that stands behind where a stands, or stood, and whether there is one.
func (s *Side) behind(a stood) (stood, bool) {
	place := slices.IndexFunc(s.orders, func(x stood) bool { return s.ahead(a, x) })
	if place < 0 {
		return stood{}, false
	}
	return s.orders[place], true
}

// place tells where an order of that price is to stand that comes now.
func (s *Side) place(price int64) int {
	place := slices.IndexFunc(s.orders, func(x stood) bool { return s.better(price, x.order.Price) })
	if place < 0 {
		return len(s.orders)
	}
	return place
}

// find tells where the order of that number stands; -1, if none has it.
func (s *Side) find(number uint64) int {
	return slices.IndexFunc(s.orders, func(x stood) bool { return x.order.Number == number })
}

// at tells where the order of that number stands, or why there is none.
func (s *Side) at(number uint64) (int, api.Errno) {
	if s.missing() {
		return 0, api.ErrNil
	}
	place := s.find(number)
	if place < 0 {
		return 0, api.ErrNone
	}
	return place, api.OK
}

// within tells whether n is 1 to most.
func within(n, most int64) bool { return n >= 1 && n <= most }
