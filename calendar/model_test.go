package calendar_test

import (
	"math"
	"math/rand"
	"slices"
	"testing"

	"broadside/api"
	"broadside/calendar"
	"broadside/spec"
)

// model is a calendar as the chapter's words have it, by its numbers alone.
type model struct {
	day uint32
	by  map[uint32]api.Contract
}

func (m *model) sorted() []api.Contract {
	var l []api.Contract
	for _, x := range m.by {
		l = append(l, x)
	}
	slices.SortFunc(l, func(a, b api.Contract) int {
		if a.Spec.Number < b.Spec.Number {
			return -1
		}
		return 1
	})
	return l
}

func (m *model) copy() *model {
	other := &model{m.day, map[uint32]api.Contract{}}
	for n, x := range m.by {
		other.by[n] = x
	}
	return other
}

func (m *model) next() api.Errno {
	if m.day == math.MaxUint32 {
		return api.ErrOverflow
	}
	m.day++
	return api.OK
}

func (m *model) list(s api.Spec) api.Errno {
	if !spec.May(s) {
		return api.ErrArg
	}
	if _, there := m.by[s.Number]; there {
		return api.ErrTwice
	}
	if s.LastDay < m.day {
		return api.ErrDay
	}
	if len(m.by) == 16 {
		return api.ErrFull
	}
	m.by[s.Number] = api.Contract{Spec: s, State: api.Open, Price: s.First}
	return api.OK
}

// change lets what is asked of one contract change it, if it is there and not expired.
func (m *model) change(number uint32, ask func(x *api.Contract) api.Errno) api.Errno {
	x, there := m.by[number]
	if !there {
		return api.ErrNone
	}
	if x.State == api.Expired {
		return api.ErrExpired
	}
	e := ask(&x)
	m.by[number] = x
	return e
}

func (m *model) halt(number uint32, on bool) api.Errno {
	return m.change(number, func(x *api.Contract) api.Errno {
		x.State = map[bool]api.ContractState{true: api.Halted, false: api.Open}[on]
		return api.OK
	})
}

func (m *model) publish(number uint32, price int64) api.Errno {
	return m.change(number, func(x *api.Contract) api.Errno {
		if price < 1 || price > 10_000_000 || price%x.Spec.Tick != 0 {
			return api.ErrPrice
		}
		x.Price = price
		return api.OK
	})
}

func (m *model) due(number uint32) api.Errno {
	return m.change(number, func(x *api.Contract) api.Errno {
		if m.day < x.Spec.LastDay {
			return api.ErrDay
		}
		for n, other := range m.by {
			earlier := other.Spec.LastDay < x.Spec.LastDay || other.Spec.LastDay == x.Spec.LastDay && n < number
			if other.State != api.Expired && earlier {
				return api.ErrDay
			}
		}
		return api.OK
	})
}

func (m *model) expire(number uint32) api.Errno {
	if e := m.due(number); e != api.OK {
		return e
	}
	return m.change(number, func(x *api.Contract) api.Errno {
		x.State = api.Expired
		return api.OK
	})
}

// chance is a contract's data by chance: now and then such that may not be.
func chance(r *rand.Rand, day uint32) api.Spec {
	s := data(uint32(r.Intn(22)), day+uint32(r.Intn(6))-1)
	s.Tick = []int64{1, 5, 7}[r.Intn(3)]
	s.First = s.Tick * int64(1+r.Intn(100))
	if r.Intn(8) == 0 {
		s.First++
	}
	return s
}

// step does one thing to both, and answers both errors.
func step(r *rand.Rand, c *calendar.Calendar, m *model) (string, api.Errno, api.Errno) {
	number := uint32(r.Intn(22))
	switch r.Intn(10) {
	case 0:
		return "Next", c.Next(), m.next()
	case 1, 2:
		s := chance(r, m.day)
		return "List", c.List(s), m.list(s)
	case 3:
		on := r.Intn(2) == 0
		return "Halt", c.Halt(number, on), m.halt(number, on)
	case 4, 5:
		price := int64(r.Intn(60) - 5)
		return "Publish", c.Publish(number, price), m.publish(number, price)
	case 6, 7:
		return "Due", c.Due(number), m.due(number)
	}
	return "Expire", c.Expire(number), m.expire(number)
}

// P5.1 to P5.5: whatever is asked in whatever order, calendars answer what the words say, as do copies of them and such as are made from what they tell.
func TestAsTheModel(t *testing.T) {
	r := rand.New(rand.NewSource(51))
	seen := map[string]map[api.Errno]int{}
	for range 200 {
		c, m := calendar.New(), &model{by: map[uint32]api.Contract{}}
		if r.Intn(4) == 0 {
			m.day = math.MaxUint32 - uint32(r.Intn(8))
			c, _ = calendar.From(m.day, nil)
		}
		for range 150 {
			name, got, want := step(r, c, m)
			if got != want {
				t.Fatalf("%s: error %d, want %d, of the day %d and %v", name, got, want, m.day, m.sorted())
			}
			if seen[name] == nil {
				seen[name] = map[api.Errno]int{}
			}
			seen[name][got]++
			holdAll(t, name, c, m.day, m.sorted()...)
			c, m = turn(t, r, c, m)
			if t.Failed() {
				t.FailNow()
			}
		}
	}
	holdSeen(t, seen)
}

// turn goes on, now and then, with a copy, or one made anew, while the one left behind is changed.
func turn(t *testing.T, r *rand.Rand, c *calendar.Calendar, m *model) (*calendar.Calendar, *model) {
	t.Helper()
	old, other := c, m.copy()
	switch r.Intn(20) {
	case 0:
		c = old.Copy()
	case 1:
		var e api.Errno
		c, e = calendar.From(old.Day(), slices.Collect(old.All()))
		hold(t, "From", e, api.OK)
	default:
		return c, m
	}
	for range 5 {
		step(r, old, other)
	}
	holdAll(t, "the one left behind", old, other.day, other.sorted()...)
	holdAll(t, "the other one", c, m.day, m.sorted()...)
	return c, m
}

// holdSeen: each call answered each of its errors, so that chance left none out.
func holdSeen(t *testing.T, seen map[string]map[api.Errno]int) {
	t.Helper()
	for name, l := range map[string][]api.Errno{
		"Next": {api.OK, api.ErrOverflow}, "List": {api.OK, api.ErrArg, api.ErrTwice, api.ErrDay, api.ErrFull},
		"Halt": {api.OK, api.ErrNone, api.ErrExpired}, "Publish": {api.OK, api.ErrNone, api.ErrExpired, api.ErrPrice},
		"Due": {api.OK, api.ErrNone, api.ErrExpired, api.ErrDay}, "Expire": {api.OK, api.ErrNone, api.ErrExpired, api.ErrDay},
	} {
		for _, e := range l {
			if seen[name][e] == 0 {
				t.Errorf("%s never answered %d", name, e)
			}
		}
	}
}
