package calendar_test

import (
	"math"
	"slices"
	"testing"

	"broadside/api"
	"broadside/calendar"
)

// data are a contract's with that number and last day: prices are the multiples of 5.
func data(number, last uint32) api.Spec {
	s := api.Spec{Number: number, Route: 1, Tick: 5, Lot: 10, Band: 100, Limit: 1000, LastDay: last, First: 1000}
	s.Shifts[3], s.Shifts[9] = 50, -50
	return s
}

// badData are such that may not be, with that number and last day.
func badData(number, last uint32) api.Spec {
	s := data(number, last)
	s.First = 1001
	return s
}

// contract is one as it stands in a calendar.
func contract(number, last uint32, state api.ContractState, price int64) api.Contract {
	return api.Contract{Spec: data(number, last), State: state, Price: price}
}

// listed is a new calendar on that day, with these contracts.
func listed(t *testing.T, day uint32, l ...api.Spec) *calendar.Calendar {
	t.Helper()
	c := calendar.New()
	for _, s := range l {
		hold(t, "List", c.List(s), api.OK)
	}
	pass(t, c, day)
	return c
}

// pass lets so many days pass.
func pass(t *testing.T, c *calendar.Calendar, days uint32) {
	t.Helper()
	for range days {
		hold(t, "Next", c.Next(), api.OK)
	}
}

func hold(t *testing.T, name string, got, want api.Errno) {
	t.Helper()
	if got != want {
		t.Errorf("%s: error %d, want %d", name, got, want)
	}
}

// holdAll: the calendar has that day and these contracts, whole.
func holdAll(t *testing.T, name string, c *calendar.Calendar, day uint32, want ...api.Contract) {
	t.Helper()
	if c.Day() != day {
		t.Errorf("%s: the day %d, want %d", name, c.Day(), day)
	}
	if got := slices.Collect(c.All()); !slices.Equal(got, want) {
		t.Errorf("%s: the contracts %v, want %v", name, got, want)
	}
}

// holdGet: the contract is that.
func holdGet(t *testing.T, name string, c *calendar.Calendar, want api.Contract) {
	t.Helper()
	if got, e := c.Get(want.Spec.Number); e != api.OK || got != want {
		t.Errorf("%s: Get answers %v, error %d; want %v", name, got, e, want)
	}
}

func numbers(c *calendar.Calendar) []uint32 {
	var l []uint32
	for x := range c.All() {
		l = append(l, x.Spec.Number)
	}
	return l
}

// The chapter's examples.
func TestExamples(t *testing.T) {
	c := listed(t, 0, data(2, 3), data(1, 3), data(5, 2))
	if got := numbers(c); !slices.Equal(got, []uint32{1, 2, 5}) {
		t.Errorf("All: %v", got)
	}
	pass(t, c, 3)
	hold(t, "Due(1)", c.Due(1), api.ErrDay)
	hold(t, "Due(5)", c.Due(5), api.OK)
	hold(t, "Expire(5)", c.Expire(5), api.OK)
	hold(t, "Due(1), then", c.Due(1), api.OK)
	hold(t, "Due(2), then", c.Due(2), api.ErrDay)
	hold(t, "Publish(5, 10)", c.Publish(5, 10), api.ErrExpired)
	hold(t, "List", c.List(data(7, 2)), api.ErrDay)
}

// P5.1: the day is 0 at first, goes on by one, and stays at the last one.
func TestDay(t *testing.T) {
	c := calendar.New()
	for day := range uint32(300) {
		if c.Day() != day {
			t.Fatalf("the day is %d, want %d", c.Day(), day)
		}
		hold(t, "Next", c.Next(), api.OK)
	}
	c, e := calendar.From(math.MaxUint32-1, nil)
	hold(t, "From", e, api.OK)
	hold(t, "Next ahead of the last day", c.Next(), api.OK)
	for range 3 {
		if c.Day() != math.MaxUint32 {
			t.Errorf("the last day is %d", c.Day())
		}
		hold(t, "Next on the last day", c.Next(), api.ErrOverflow)
	}
}

// P5.1: a day that passes changes no contract, whatever is due.
func TestNextLeavesContracts(t *testing.T) {
	c := listed(t, 5, data(1, 2), data(2, 7))
	holdAll(t, "five days on", c, 5, contract(1, 2, api.Open, 1000), contract(2, 7, api.Open, 1000))
}

// P5.2: what is listed is there, open, at its First; on its own last day, too.
func TestList(t *testing.T) {
	c := listed(t, 4)
	for _, s := range []api.Spec{data(9, 4), data(math.MaxUint32, math.MaxUint32), data(1, 5)} {
		hold(t, "List", c.List(s), api.OK)
		holdGet(t, "List", c, api.Contract{Spec: s, State: api.Open, Price: 1000})
	}
	other := data(3, 4)
	other.First, other.Route, other.Credit = 5, 8, 7
	hold(t, "List", c.List(other), api.OK)
	holdAll(t, "List", c, 4, contract(1, 5, api.Open, 1000), api.Contract{Spec: other, State: api.Open, Price: 5},
		contract(9, 4, api.Open, 1000), contract(math.MaxUint32, math.MaxUint32, api.Open, 1000))
}

// full is a calendar on the day 5 with the contracts 10, 20 to 160, of which 10 is expired.
func full(t *testing.T) *calendar.Calendar {
	t.Helper()
	c := listed(t, 0, data(10, 5))
	for n := uint32(20); n <= 160; n += 10 {
		hold(t, "List", c.List(data(n, 9)), api.OK)
	}
	pass(t, c, 5)
	hold(t, "Expire", c.Expire(10), api.OK)
	return c
}

// P5.2: each error is ahead of those that are named behind it, and nothing changes.
func TestListErrors(t *testing.T) {
	c := full(t)
	all := slices.Collect(c.All())
	for _, x := range []struct {
		name string
		s    api.Spec
		e    api.Errno
	}{
		{"the zero data", api.Spec{}, api.ErrArg},
		{"the number 0", data(0, 9), api.ErrArg},
		{"data that may not be", badData(7, 9), api.ErrArg},
		{"such of a number that is there", badData(20, 9), api.ErrArg},
		{"such, and a last day that is over", badData(20, 4), api.ErrArg},
		{"a number that is there", data(20, 9), api.ErrTwice},
		{"the last number that is there", data(160, 9), api.ErrTwice},
		{"a number that is there, a last day that is over", data(20, 4), api.ErrTwice},
		{"an expired one's number", data(10, 9), api.ErrTwice},
		{"an expired one's data", data(10, 5), api.ErrTwice},
		{"a last day that is over", data(7, 4), api.ErrDay},
		{"the day 0", data(7, 0), api.ErrDay},
		{"no room", data(7, 9), api.ErrFull},
		{"no room, the last day is today", data(170, 5), api.ErrFull},
	} {
		hold(t, x.name, c.List(x.s), x.e)
		holdAll(t, x.name, c, 5, all...)
	}
}

// P5.2: the errors of a calendar that has room.
func TestListErrorsWithRoom(t *testing.T) {
	c := listed(t, 5, data(10, 9), data(20, 9))
	for _, x := range []struct {
		name string
		s    api.Spec
		e    api.Errno
	}{
		{"data that may not be", badData(7, 9), api.ErrArg},
		{"a number that is there", data(20, 9), api.ErrTwice},
		{"a last day that was yesterday", data(7, 4), api.ErrDay},
		{"a last day that is today", data(7, 5), api.OK},
	} {
		hold(t, x.name, c.List(x.s), x.e)
	}
	if got := numbers(c); !slices.Equal(got, []uint32{7, 10, 20}) {
		t.Errorf("All: %v", got)
	}
}

// P5.2: sixteen contracts are listed, in any order, and a seventeenth is not.
func TestListSixteen(t *testing.T) {
	c := calendar.New()
	var want []uint32
	for i := range uint32(16) {
		hold(t, "List", c.List(data(1+i*5%16, 9)), api.OK)
		want = append(want, i+1)
	}
	hold(t, "the seventeenth", c.List(data(17, 9)), api.ErrFull)
	if got := numbers(c); !slices.Equal(got, want) {
		t.Errorf("All: %v", got)
	}
}

// P5.3: a contract is halted and opened, as often as one likes; the others stay.
func TestHalt(t *testing.T) {
	c := listed(t, 0, data(1, 3), data(2, 3), data(3, 3))
	for _, on := range []bool{false, true, true, false, false, true} {
		state := api.Open
		if on {
			state = api.Halted
		}
		hold(t, "Halt", c.Halt(2, on), api.OK)
		holdAll(t, "Halt", c, 0, contract(1, 3, api.Open, 1000), contract(2, 3, state, 1000), contract(3, 3, api.Open, 1000))
	}
}

// P5.3: a price is published, if it is one; a halted contract's, too, and beyond the band.
func TestPublish(t *testing.T) {
	c := listed(t, 0, data(1, 3), data(2, 3), data(3, 3))
	hold(t, "Halt", c.Halt(3, true), api.OK)
	price := int64(1000)
	for _, x := range []struct {
		price int64
		e     api.Errno
	}{
		{1005, api.OK}, {5, api.OK}, {10_000_000, api.OK}, {0, api.ErrPrice}, {-5, api.ErrPrice}, {1001, api.ErrPrice}, {4, api.ErrPrice},
		{10_000_005, api.ErrPrice}, {math.MaxInt64, api.ErrPrice}, {math.MinInt64, api.ErrPrice}, {1 << 32 * 5, api.ErrPrice}, {1000, api.OK},
	} {
		hold(t, "Publish", c.Publish(2, x.price), x.e)
		hold(t, "Publish of a halted one", c.Publish(3, x.price), x.e)
		if x.e == api.OK {
			price = x.price
		}
		holdAll(t, "Publish", c, 0, contract(1, 3, api.Open, 1000), contract(2, 3, api.Open, price), contract(3, 3, api.Halted, price))
	}
}

// P5.3: each contract has its own Tick.
func TestPublishOwnTick(t *testing.T) {
	coarse := data(2, 3)
	coarse.Tick = 1000
	c := listed(t, 0, data(1, 3), coarse)
	hold(t, "Publish(1, 2005)", c.Publish(1, 2005), api.OK)
	hold(t, "Publish(2, 2005)", c.Publish(2, 2005), api.ErrPrice)
	hold(t, "Publish(2, 2000)", c.Publish(2, 2000), api.OK)
}

// P5.3: a contract is due from its last day on, when no other one expires ahead of it.
func TestDue(t *testing.T) {
	c := listed(t, 2, data(1, 3))
	hold(t, "Due ahead of the last day", c.Due(1), api.ErrDay)
	hold(t, "Expire ahead of the last day", c.Expire(1), api.ErrDay)
	for range 3 {
		pass(t, c, 1)
		hold(t, "Due on the last day or behind it", c.Due(1), api.OK)
		holdGet(t, "Due", c, contract(1, 3, api.Open, 1000))
	}
	hold(t, "Expire", c.Expire(1), api.OK)
	holdGet(t, "Expire", c, contract(1, 3, api.Expired, 1000))
}

// P5.3: on the last one of all days, and of the day 0.
func TestDueAtTheEnds(t *testing.T) {
	c := listed(t, 0, data(1, 0), data(2, math.MaxUint32))
	hold(t, "Due on the day 0", c.Due(1), api.OK)
	hold(t, "Expire on the day 0", c.Expire(1), api.OK)
	hold(t, "Due of the last day", c.Due(2), api.ErrDay)
	c, _ = calendar.From(math.MaxUint32-1, slices.Collect(c.All()))
	hold(t, "Due a day ahead", c.Due(2), api.ErrDay)
	pass(t, c, 1)
	hold(t, "Due on the last of all days", c.Due(2), api.OK)
}

// P5.3: contracts expire by their last days, then by their numbers; just one is due at a time, halted or not.
func TestExpireInOrder(t *testing.T) {
	c := listed(t, 9, data(6, 3), data(1, 5), data(4, 3), data(9, 2), data(3, 5), data(2, 10))
	hold(t, "Halt", c.Halt(9, true), api.OK)
	hold(t, "Halt", c.Halt(4, true), api.OK)
	order := []uint32{9, 4, 6, 1, 3}
	for i, number := range order {
		for j, other := range order {
			want := api.ErrDay
			if j < i {
				want = api.ErrExpired
			} else if j == i {
				want = api.OK
			}
			hold(t, "Due", c.Due(other), want)
			if want != api.OK {
				hold(t, "Expire", c.Expire(other), want)
			}
		}
		hold(t, "Due of one whose day is not there", c.Due(2), api.ErrDay)
		hold(t, "Expire", c.Expire(number), api.OK)
	}
	hold(t, "Due of the last one, ahead of its day", c.Due(2), api.ErrDay)
	pass(t, c, 1)
	hold(t, "Due of the last one", c.Due(2), api.OK)
}

// P5.3: one that is listed later, but expires ahead, is waited for.
func TestDueBehindAListedOne(t *testing.T) {
	c := listed(t, 3, data(5, 3))
	hold(t, "Due", c.Due(5), api.OK)
	hold(t, "List", c.List(data(4, 3)), api.OK)
	hold(t, "Due behind a smaller number", c.Due(5), api.ErrDay)
	hold(t, "Due of that", c.Due(4), api.OK)
	hold(t, "List", c.List(data(6, 3)), api.OK)
	hold(t, "Expire", c.Expire(4), api.OK)
	hold(t, "Due ahead of a greater number", c.Due(5), api.OK)
}

// P5.3: who is not there comes ahead of all, who is expired ahead of what is told then; nothing changes.
func TestNoneAndExpired(t *testing.T) {
	c := listed(t, 3, data(2, 3), data(4, 9))
	hold(t, "Publish", c.Publish(2, 500), api.OK)
	hold(t, "Halt", c.Halt(2, true), api.OK)
	hold(t, "Expire", c.Expire(2), api.OK)
	all := []api.Contract{contract(2, 3, api.Expired, 500), contract(4, 9, api.Open, 1000)}
	for number, e := range map[uint32]api.Errno{0: api.ErrNone, 1: api.ErrNone, 3: api.ErrNone, 5: api.ErrNone, math.MaxUint32: api.ErrNone, 2: api.ErrExpired} {
		hold(t, "Halt", c.Halt(number, true), e)
		hold(t, "Halt off", c.Halt(number, false), e)
		hold(t, "Publish of a price", c.Publish(number, 10), e)
		hold(t, "Publish of none", c.Publish(number, -1), e)
		hold(t, "Due", c.Due(number), e)
		hold(t, "Expire", c.Expire(number), e)
		if e == api.ErrNone {
			if x, got := c.Get(number); got != e || x != (api.Contract{}) {
				t.Errorf("Get(%d): %v, error %d", number, x, got)
			}
		}
		holdAll(t, "refused", c, 3, all...)
	}
	holdGet(t, "an expired one", c, all[0])
}

// P5.4: whoever breaks off is told no more; and again from the beginning.
func TestAllBrokenOff(t *testing.T) {
	c := listed(t, 0, data(4, 3), data(2, 3), data(3, 3), data(1, 3))
	all := c.All()
	for most := 1; most <= 4; most++ {
		var got []uint32
		all(func(x api.Contract) bool {
			got = append(got, x.Spec.Number)
			return len(got) < most
		})
		if !slices.Equal(got, []uint32{1, 2, 3, 4}[:most]) {
			t.Errorf("broken off at %d: %v", most, got)
		}
	}
}

// P5.4: contracts are told as they are when they are told, not as they were when All was called or begun.
func TestAllAsTheyAre(t *testing.T) {
	c := calendar.New()
	all := c.All()
	for _, s := range []api.Spec{data(1, 0), data(3, 9), data(5, 9)} {
		hold(t, "List", c.List(s), api.OK)
	}
	var got []api.Contract
	for x := range all {
		got = append(got, x)
		switch x.Spec.Number {
		case 1:
			hold(t, "Expire", c.Expire(1), api.OK)
			hold(t, "Publish", c.Publish(3, 50), api.OK)
		case 3:
			hold(t, "Publish", c.Publish(3, 60), api.OK)
			hold(t, "Halt", c.Halt(5, true), api.OK)
		}
	}
	want := []api.Contract{contract(1, 0, api.Open, 1000), contract(3, 9, api.Open, 50), contract(5, 9, api.Halted, 1000)}
	if !slices.Equal(got, want) {
		t.Errorf("told are %v, want %v", got, want)
	}
	holdAll(t, "then", c, 0, contract(1, 0, api.Expired, 1000), contract(3, 9, api.Open, 60), contract(5, 9, api.Halted, 1000))
}

// P5.4: what is listed while contracts are told moves none of them: their numbers rise.
func TestAllWhileListing(t *testing.T) {
	c := listed(t, 0, data(20, 3), data(40, 3))
	var got []uint32
	for x := range c.All() {
		got = append(got, x.Spec.Number)
		switch x.Spec.Number {
		case 20:
			hold(t, "List", c.List(data(10, 3)), api.OK)
			hold(t, "List", c.List(data(30, 3)), api.OK)
		case 40:
			hold(t, "List", c.List(data(5, 3)), api.OK)
			hold(t, "List", c.List(data(math.MaxUint32, 3)), api.OK)
		}
	}
	if !slices.Equal(got, []uint32{20, 30, 40, math.MaxUint32}) {
		t.Errorf("told are %v", got)
	}
}

// P5.4: a copy is the same, and each of both goes its own way.
func TestCopy(t *testing.T) {
	first := listed(t, 3, data(1, 3), data(2, 3), data(3, 9))
	hold(t, "Publish", first.Publish(2, 20), api.OK)
	hold(t, "Halt", first.Halt(3, true), api.OK)
	all := slices.Collect(first.All())
	second := first.Copy()
	holdAll(t, "the copy", second, 3, all...)
	change := func(c *calendar.Calendar) {
		hold(t, "Publish", c.Publish(2, 30), api.OK)
		hold(t, "Halt", c.Halt(3, false), api.OK)
		hold(t, "Expire", c.Expire(1), api.OK)
		hold(t, "List", c.List(data(4, 3)), api.OK)
		pass(t, c, 1)
	}
	changed := []api.Contract{contract(1, 3, api.Expired, 1000), contract(2, 3, api.Open, 30), contract(3, 9, api.Open, 1000), contract(4, 3, api.Open, 1000)}
	change(second)
	holdAll(t, "the first, when the copy has changed", first, 3, all...)
	third := first.Copy()
	change(first)
	holdAll(t, "the first, changed", first, 4, changed...)
	holdAll(t, "the copy, changed", second, 4, changed...)
	holdAll(t, "a copy of when it had not changed", third, 3, all...)
	hold(t, "List", first.List(data(5, 4)), api.OK)
	hold(t, "List", second.List(data(6, 4)), api.OK)
	holdAll(t, "listed in the first", first, 4, append(changed, contract(5, 4, api.Open, 1000))...)
	holdAll(t, "listed in the copy", second, 4, append(changed, contract(6, 4, api.Open, 1000))...)
	holdAll(t, "a copy of a new one", calendar.New().Copy(), 0)
	hold(t, "Next of it", calendar.New().Copy().Next(), api.OK)
}

// R2: what was answered may be written over.
func TestAnswersAreNew(t *testing.T) {
	c := listed(t, 0, data(1, 3), data(2, 3))
	x, _ := c.Get(1)
	x.Price, x.Spec.Shifts[3] = 7, 9
	for x := range c.All() {
		x.State, x.Spec.Shifts[3] = api.Expired, 9
	}
	holdAll(t, "answers written over", c, 0, contract(1, 3, api.Open, 1000), contract(2, 3, api.Open, 1000))
}

// R1: calendars that are not there, and zero ones, which stay such whatever is asked of them.
func TestNoCalendar(t *testing.T) {
	for _, c := range []*calendar.Calendar{nil, {}} {
		for range 2 {
			hold(t, "Next", c.Next(), api.ErrNil)
			hold(t, "List", c.List(data(1, 3)), api.ErrNil)
			hold(t, "List of bad data", c.List(api.Spec{}), api.ErrNil)
			for _, number := range []uint32{0, 1} {
				hold(t, "Halt", c.Halt(number, true), api.ErrNil)
				hold(t, "Publish", c.Publish(number, -1), api.ErrNil)
				hold(t, "Due", c.Due(number), api.ErrNil)
				hold(t, "Expire", c.Expire(number), api.ErrNil)
				if x, e := c.Get(number); e != api.ErrNil || x != (api.Contract{}) {
					t.Errorf("Get: %v, error %d", x, e)
				}
			}
			if c.Copy() != nil {
				t.Error("Copy is there")
			}
			holdAll(t, "no calendar", c, 0)
		}
	}
}
