package side_test

import (
	"slices"
	"testing"

	"broadside/api"
	"broadside/side"
)

// P6.4: what is told stands there when it is told, not when All was called; it may be told again.
func TestAllLater(t *testing.T) {
	for _, buy := range []bool{true, false} {
		l := sample(buy)
		s := side.New(buy)
		all := s.All()
		if got := slices.Collect(all); len(got) != 0 {
			t.Errorf("told are %v", got)
		}
		for i, o := range l[:3] {
			hold(t, "Add", s.Add(o), api.OK)
			if got := slices.Collect(all); len(got) != i+1 {
				t.Errorf("told are %v", got)
			}
		}
		hold(t, "Lower", s.Lower(3, 1), api.OK)
		holdDrop(t, s, 2, l[1], api.OK)
		for range 2 {
			if got := slices.Collect(all); !slices.Equal(got, []api.Order{l[0], leaving(l[2], 1)}) {
				t.Errorf("told are %v", got)
			}
		}
	}
}

// P6.4: whoever breaks off is told no more.
func TestAllBrokenOff(t *testing.T) {
	for _, buy := range []bool{true, false} {
		s := added(t, buy, sample(buy)...)
		want := slices.Collect(s.All())
		for n := 1; n <= len(want); n++ {
			var got []api.Order
			s.All()(func(o api.Order) bool {
				got = append(got, o)
				return len(got) < n
			})
			if !slices.Equal(got, want[:n]) {
				t.Errorf("broken off behind %d: %v, want %v", n, got, want[:n])
			}
		}
		holdAll(t, "broken off", s, want...)
	}
}

// P6.4: what goes, comes or is lowered while orders are told is told as it stands then; nobody is left out or told twice.
func TestAllInBetween(t *testing.T) {
	for _, buy := range []bool{true, false} {
		way := int64(1)
		if !buy {
			way = -1
		}
		at := func(number uint64, worse int64) api.Order { return order(buy, number, 1000-way*worse, 5) }
		s := added(t, buy, at(1, 0), at(2, 0), at(3, 0), at(4, 1), at(5, 1), at(6, 2))
		var got []api.Order
		for o := range s.All() {
			got = append(got, o)
			switch o.Number {
			case 1:
				holdFill(t, s, 5, leaving(at(1, 0), 0), api.OK)
				hold(t, "Add of a better one", s.Add(at(10, -1)), api.OK)
				hold(t, "Lower of one behind", s.Lower(6, 3), api.OK)
			case 2:
				holdDrop(t, s, 2, at(2, 0), api.OK)
				holdDrop(t, s, 3, at(3, 0), api.OK)
				hold(t, "Add at the price", s.Add(at(11, 0)), api.OK)
			case 4:
				holdDrop(t, s, 10, at(10, -1), api.OK)
				hold(t, "Lower of what is told", s.Lower(4, 1), api.OK)
			case 6:
				hold(t, "Add of a worse one", s.Add(at(12, 3)), api.OK)
			}
		}
		want := []api.Order{at(1, 0), at(2, 0), at(11, 0), at(4, 1), at(5, 1), leaving(at(6, 2), 3), at(12, 3)}
		if !slices.Equal(got, want) {
			t.Errorf("told are %v, want %v", got, want)
		}
		holdAll(t, "then", s, at(11, 0), leaving(at(4, 1), 1), at(5, 1), leaving(at(6, 2), 3), at(12, 3))
	}
}

// P6.4: orders are told within the telling of orders.
func TestAllWithin(t *testing.T) {
	s := added(t, true, sample(true)...)
	want := slices.Collect(s.All())
	var got []api.Order
	for range s.All() {
		got = append(got, slices.Collect(s.All())...)
	}
	if !slices.Equal(got, slices.Repeat(want, len(want))) {
		t.Errorf("told are %v", got)
	}
}

// P6.4: a copy is the same, and each of both goes its own way.
func TestCopy(t *testing.T) {
	for _, buy := range []bool{true, false} {
		l := sample(buy)
		first := added(t, buy, l...)
		holdDrop(t, first, 4, l[3], api.OK)
		hold(t, "Lower", first.Lower(3, 4), api.OK)
		all := slices.Collect(first.All())
		second := first.Copy()
		holdAll(t, "the copy", second, all...)
		change := func(s *side.Side) {
			best, _ := s.Best()
			holdFill(t, s, 1, leaving(best, best.Left-1), api.OK)
			hold(t, "Lower", s.Lower(3, 3), api.OK)
			hold(t, "Add", s.Add(order(buy, 9, 10, 5)), api.OK)
			hold(t, "Add of the other way", s.Add(order(!buy, 8, 10, 5)), api.ErrArg)
			hold(t, "Add of one that is there", s.Add(l[0]), api.ErrTwice)
			holdDrop(t, s, 2, leaving(l[1], map[bool]int64{true: 4, false: 5}[buy]), api.OK)
		}
		left := map[bool]int64{true: 5, false: 4}[buy]
		changed := []api.Order{leaving(l[0], left), leaving(l[2], 3), order(buy, 9, 10, 5)}
		change(second)
		holdAll(t, "the first, when the copy has changed", first, all...)
		third := first.Copy()
		change(first)
		holdAll(t, "the first, changed", first, changed...)
		holdAll(t, "the copy, changed", second, changed...)
		holdAll(t, "a copy of when it had not changed", third, all...)
		hold(t, "Add", first.Add(order(buy, 20, 10, 5)), api.OK)
		hold(t, "Add", second.Add(order(buy, 30, 10, 5)), api.OK)
		holdAll(t, "added to the first", first, append(slices.Clone(changed), order(buy, 20, 10, 5))...)
		holdAll(t, "added to the copy", second, append(slices.Clone(changed), order(buy, 30, 10, 5))...)
		holdAll(t, "a copy of a new one", side.New(buy).Copy())
		hold(t, "Add to it", side.New(buy).Copy().Add(l[0]), api.OK)
		hold(t, "Add to it, the other way", side.New(!buy).Copy().Add(l[0]), api.ErrArg)
	}
}

// R2: what was answered may be written over.
func TestAnswersAreNew(t *testing.T) {
	l := sample(true)
	s := added(t, true, l...)
	one, _ := s.Get(1)
	best, _ := s.Best()
	filled, _ := s.Fill(1)
	one.Left, best.Price, filled.Number = 7, 1, 9
	for o := range s.All() {
		o.Left, o.Price = 1, 1
	}
	clear(slices.Collect(s.All()))
	holdAll(t, "answers written over", s, leaving(l[1], 4), l[3], l[0], l[2])
}

// R1: sides that are not there, and zero ones, which stay such whatever is asked of them.
func TestNoSide(t *testing.T) {
	for _, s := range []*side.Side{nil, {}} {
		for range 2 {
			for _, buy := range []bool{true, false} {
				hold(t, "Add", s.Add(order(buy, 1, 10, 5)), api.ErrNil)
			}
			hold(t, "Add of what may not be", s.Add(api.Order{}), api.ErrNil)
			for _, n := range []uint64{0, 1} {
				holdFill(t, s, int64(n), api.Order{}, api.ErrNil)
				holdDrop(t, s, n, api.Order{}, api.ErrNil)
				hold(t, "Lower", s.Lower(n, int64(n)), api.ErrNil)
				holdGet(t, s, n, api.Order{}, api.ErrNil)
				holdReach(t, s, int64(n), 0, 0)
			}
			if s.Copy() != nil {
				t.Error("Copy is there")
			}
			holdAll(t, "no side", s)
		}
	}
}
