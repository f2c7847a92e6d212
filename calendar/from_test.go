package calendar_test

import (
	"math"
	"slices"
	"testing"

	"broadside/api"
	"broadside/calendar"
)

// P5.5: a calendar is the day and the contracts that it is made from, and goes on with them.
func TestFrom(t *testing.T) {
	for _, l := range [][]api.Contract{
		nil, {},
		{contract(1, 3, api.Open, 1000)},
		{contract(1, 3, api.Expired, 5), contract(2, 9, api.Halted, 10_000_000), contract(math.MaxUint32, 0, api.Open, 1005)},
	} {
		for _, day := range []uint32{0, 3, 9, math.MaxUint32} {
			c, e := calendar.From(day, l)
			hold(t, "From", e, api.OK)
			holdAll(t, "From", c, day, l...)
		}
	}
	c, _ := calendar.From(9, []api.Contract{contract(1, 3, api.Expired, 5), contract(2, 9, api.Halted, 10), contract(7, 9, api.Open, 15)})
	hold(t, "Due of an expired one", c.Due(1), api.ErrExpired)
	hold(t, "Due behind another one", c.Due(7), api.ErrDay)
	hold(t, "Expire", c.Expire(2), api.OK)
	hold(t, "Publish", c.Publish(7, 20), api.OK)
	hold(t, "List ahead of the day", c.List(data(3, 8)), api.ErrDay)
	hold(t, "List", c.List(data(3, 9)), api.OK)
	pass(t, c, 1)
	holdAll(t, "gone on", c, 10, contract(1, 3, api.Expired, 5), contract(2, 9, api.Expired, 10), contract(3, 9, api.Open, 1000), contract(7, 9, api.Open, 20))
}

// many are so many contracts by rising numbers.
func many(n int) []api.Contract {
	var l []api.Contract
	for i := range n {
		l = append(l, contract(uint32(i)+1, 9, api.Open, 1000))
	}
	return l
}

// P5.5: sixteen contracts, not seventeen; expired ones count.
func TestFromMany(t *testing.T) {
	c, e := calendar.From(3, many(16))
	hold(t, "sixteen", e, api.OK)
	holdAll(t, "sixteen", c, 3, many(16)...)
	hold(t, "List", c.List(data(17, 9)), api.ErrFull)
	for _, n := range []int{17, 18, 1000} {
		l := many(n)
		for i := range l {
			l[i].State = api.Expired
		}
		holdNone(t, "too many", l)
	}
}

// holdNone: no calendar is made from these, on any day.
func holdNone(t *testing.T, name string, l []api.Contract) {
	t.Helper()
	for _, day := range []uint32{0, 9, math.MaxUint32} {
		if c, e := calendar.From(day, l); c != nil || e != api.ErrArg {
			t.Errorf("From, %s: %v, error %d", name, c, e)
		}
	}
}

// P5.5: one wrong contract is enough, wherever it stands.
func TestFromErrors(t *testing.T) {
	for name, change := range map[string]func(x *api.Contract){
		"the number 0":                  func(x *api.Contract) { x.Spec.Number = 0 },
		"a First that is no price":      func(x *api.Contract) { x.Spec.First = 1001 },
		"no Route":                      func(x *api.Contract) { x.Spec.Route = 0 },
		"no shifts":                     func(x *api.Contract) { x.Spec.Shifts = [16]int64{} },
		"the zero contract":             func(x *api.Contract) { *x = api.Contract{} },
		"the state 0":                   func(x *api.Contract) { x.State = 0 },
		"the state 4":                   func(x *api.Contract) { x.State = 4 },
		"the state 255":                 func(x *api.Contract) { x.State = 255 },
		"the price 0":                   func(x *api.Contract) { x.Price = 0 },
		"a price that is no multiple":   func(x *api.Contract) { x.Price = 1001 },
		"a price below 0":               func(x *api.Contract) { x.Price = -5 },
		"a price above all":             func(x *api.Contract) { x.Price = 10_000_005 },
		"the price 0 of an expired one": func(x *api.Contract) { x.Price, x.State = 0, api.Expired },
		"bad data of an expired one":    func(x *api.Contract) { x.Spec.Tick, x.State = 0, api.Expired },
		"a bad price of a halted one":   func(x *api.Contract) { x.Price, x.State = 4, api.Halted },
		"the Tick 0, and the price 1":   func(x *api.Contract) { x.Spec.Tick, x.Price = 0, 1 },
	} {
		for place := range 3 {
			l := many(3)
			change(&l[place])
			holdNone(t, name, l)
		}
	}
	for _, state := range []api.ContractState{api.Open, api.Halted, api.Expired} {
		_, e := calendar.From(0, []api.Contract{contract(1, 9, state, 5)})
		hold(t, "each state", e, api.OK)
	}
}

// P5.5: numbers that do not rise: two alike, and a smaller one behind a greater one.
func TestFromNumbers(t *testing.T) {
	for _, x := range []struct {
		numbers []uint32
		e       api.Errno
	}{
		{[]uint32{1, 2, 3}, api.OK}, {[]uint32{1, 1 << 31, math.MaxUint32}, api.OK},
		{[]uint32{1, 1}, api.ErrArg}, {[]uint32{2, 1}, api.ErrArg}, {[]uint32{1, 2, 2}, api.ErrArg}, {[]uint32{1, 3, 2}, api.ErrArg},
		{[]uint32{3, 1, 2}, api.ErrArg}, {[]uint32{math.MaxUint32, 1}, api.ErrArg}, {[]uint32{1, math.MaxUint32, 2}, api.ErrArg},
	} {
		var l []api.Contract
		for _, n := range x.numbers {
			l = append(l, contract(n, 9, api.Open, 5))
		}
		if x.e == api.OK {
			_, e := calendar.From(0, l)
			hold(t, "rising numbers", e, api.OK)
		} else {
			holdNone(t, "numbers that do not rise", l)
		}
	}
}

// P5.5, R2: what is handed in stays as it was, and is not kept.
func TestFromLeavesItsList(t *testing.T) {
	l := append(many(3), many(5)[3:]...)
	c, e := calendar.From(9, l[:3])
	hold(t, "From", e, api.OK)
	hold(t, "Publish", c.Publish(1, 50), api.OK)
	hold(t, "Expire", c.Expire(1), api.OK)
	hold(t, "List", c.List(data(9, 9)), api.OK)
	if !slices.Equal(l, many(5)) {
		t.Errorf("From wrote to what it was handed: %v", l)
	}
	clear(l)
	holdAll(t, "the list written over", c, 9, contract(1, 9, api.Expired, 50), contract(2, 9, api.Open, 1000), contract(3, 9, api.Open, 1000), contract(9, 9, api.Open, 1000))
}
