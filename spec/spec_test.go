package spec_test

import (
	"math"
	"math/big"
	"math/rand"
	"testing"

	"broadside/api"
	"broadside/spec"
)

const (
	least    = math.MinInt64
	greatest = math.MaxInt64
)

// sample is the chapter's contract.
func sample() api.Spec {
	s := api.Spec{Number: 1, Route: 1, Tick: 5, Lot: 10, Band: 100, Limit: 1000, LastDay: 9, First: 1000}
	s.Shifts[3], s.Shifts[9] = 50, -50
	return s
}

// smallest and widest are contracts whose every number stands at an end.
func smallest() api.Spec {
	s := api.Spec{Number: 1, Route: 1, Tick: 1, Lot: 1, Band: 0, Limit: 1, Credit: 0, LastDay: 0, First: 1}
	s.Shifts[0], s.Shifts[15] = 1, -1
	return s
}

func widest() api.Spec {
	s := api.Spec{
		Number: math.MaxUint32, Route: 8, Tick: 10_000_000, Lot: 1_000_000, Band: 10_000_000, Limit: 10_000_000,
		Credit: 10_000_000, LastDay: math.MaxUint32, First: 10_000_000,
	}
	for i := range s.Shifts {
		s.Shifts[i] = 10_000_000 * int64(1-i%2*2)
	}
	return s
}

// with is the chapter's contract with something changed.
func with(change func(s *api.Spec)) api.Spec {
	s := sample()
	change(&s)
	return s
}

// field is one of a contract's numbers, and from where to where it may be.
type field struct {
	name      string
	at        func(s *api.Spec) *int64
	low, high int64
}

func fields() []field {
	l := []field{
		{"Tick", func(s *api.Spec) *int64 { return &s.Tick }, 1, 10_000_000},
		{"Lot", func(s *api.Spec) *int64 { return &s.Lot }, 1, 1_000_000},
		{"Band", func(s *api.Spec) *int64 { return &s.Band }, 0, 10_000_000},
		{"Limit", func(s *api.Spec) *int64 { return &s.Limit }, 1, 10_000_000},
		{"Credit", func(s *api.Spec) *int64 { return &s.Credit }, 0, 10_000_000},
		{"First", func(s *api.Spec) *int64 { return &s.First }, 1, 10_000_000},
	}
	for i := range 16 {
		l = append(l, field{"Shifts", func(s *api.Spec) *int64 { return &s.Shifts[i] }, -10_000_000, 10_000_000})
	}
	return l
}

// bad are contracts that may not be, for all kinds of reasons.
func bad() map[string]api.Spec {
	l := map[string]api.Spec{
		"zero":         {},
		"Number 0":     with(func(s *api.Spec) { s.Number = 0 }),
		"Route 0":      with(func(s *api.Spec) { s.Route = 0 }),
		"Route 9":      with(func(s *api.Spec) { s.Route = 9 }),
		"First 1001":   with(func(s *api.Spec) { s.First = 1001 }),
		"First 4":      with(func(s *api.Spec) { s.First = 4 }),
		"none down":    with(func(s *api.Spec) { s.Shifts[9] = 0 }),
		"none up":      with(func(s *api.Spec) { s.Shifts[3] = 0 }),
		"up alone":     with(func(s *api.Spec) { s.Shifts[9] = 50 }),
		"down alone":   with(func(s *api.Spec) { s.Shifts[3] = -50 }),
		"no shift":     with(func(s *api.Spec) { s.Shifts = [16]int64{} }),
		"Tick > First": with(func(s *api.Spec) { s.Tick = 1001 }),
	}
	for _, f := range fields() {
		l[f.name+" below"] = with(func(s *api.Spec) { *f.at(s) = f.low - 1 })
		l[f.name+" above"] = with(func(s *api.Spec) { *f.at(s) = f.high + 1 })
	}
	return l
}

// P4.1: the chapter's examples, and contracts at the ends of all numbers.
func TestMay(t *testing.T) {
	for name, s := range map[string]api.Spec{"sample": sample(), "smallest": smallest(), "widest": widest()} {
		if !spec.May(s) {
			t.Errorf("May of the %s contract: false", name)
		}
	}
	for name, s := range bad() {
		if spec.May(s) {
			t.Errorf("May, %s: true", name)
		}
	}
}

// P4.1: each number by itself, at its ends, beyond them, and as far as numbers go.
func TestMayFields(t *testing.T) {
	for _, f := range fields() {
		for _, n := range []int64{least, -10_000_001, -10_000_000, -1, 0, 1, 5, 1_000_000, 1_000_001, 10_000_000, 10_000_001, 1 << 32, greatest} {
			s := sample()
			s.Tick = 1
			s.Shifts[0], s.Shifts[15] = 1, -1
			// So that First is no other reason: 1000 is a multiple of -1, too.
			if f.name == "Tick" && n > 0 {
				s.First = n
			}
			*f.at(&s) = n
			if want := f.low <= n && n <= f.high; spec.May(s) != want {
				t.Errorf("May with %s %d: %v", f.name, n, !want)
			}
		}
	}
	for route := range 256 {
		s := with(func(s *api.Spec) { s.Route = uint8(route) })
		if want := route >= 1 && route <= 8; spec.May(s) != want {
			t.Errorf("May with Route %d: %v", route, !want)
		}
	}
	for _, n := range []uint32{0, 1, 2, 1 << 31, math.MaxUint32} {
		if spec.May(with(func(s *api.Spec) { s.Number = n })) != (n != 0) {
			t.Errorf("May with Number %d: %v", n, n == 0)
		}
		if !spec.May(with(func(s *api.Spec) { s.LastDay = n })) {
			t.Errorf("May with LastDay %d: false", n)
		}
	}
}

// P4.1: a shift up and one down, wherever they stand.
func TestMayShifts(t *testing.T) {
	for up := range 16 {
		for down := range 16 {
			s := with(func(s *api.Spec) { s.Shifts = [16]int64{} })
			s.Shifts[up] = 1
			s.Shifts[down] = -1
			if want := up != down; spec.May(s) != want {
				t.Errorf("May with a shift up at %d, down at %d: %v", up, down, !want)
			}
		}
	}
}

// multiple is whether n is from 1 to most, and a multiple of step, as the chapter's words have it.
func multiple(n, step, most int64) bool {
	return n >= 1 && n <= most && new(big.Int).Mod(big.NewInt(n), big.NewInt(step)).Sign() == 0
}

// P4.1: prices and quantities at their ends and about each step.
func TestSteps(t *testing.T) {
	numbers := []int64{
		least, least + 1, -10_000_000, -10, -5, -1, 0, 1, 2, 3, 4, 5, 6, 7, 9, 10, 11, 14, 15, 20, 21, 1000, 1001, 1005,
		999_990, 999_999, 1_000_000, 1_000_001, 1_000_010, 9_999_995, 9_999_999, 10_000_000, 10_000_001, 10_000_005, 1 << 32, greatest - 2, greatest,
	}
	for _, step := range []int64{1, 2, 3, 5, 7, 10, 999_999, 1_000_000} {
		s := with(func(s *api.Spec) { s.Tick, s.Lot, s.First = step, step, step })
		for _, n := range numbers {
			if want := multiple(n, step, 10_000_000); spec.IsPrice(s, n) != want {
				t.Errorf("IsPrice of %d, Tick %d: %v", n, step, !want)
			}
			if want := multiple(n, step, 1_000_000); spec.IsQty(s, n) != want {
				t.Errorf("IsQty of %d, Lot %d: %v", n, step, !want)
			}
		}
	}
	if s := widest(); !spec.IsPrice(s, 10_000_000) || spec.IsPrice(s, 1_000_000) || !spec.IsQty(s, 1_000_000) || spec.IsQty(s, 10_000_000) {
		t.Error("IsPrice, IsQty of the widest contract")
	}
}

// P4.1: Tick and Lot are asked each for its own.
func TestTickAndLot(t *testing.T) {
	s := sample()
	for n, want := range map[int64][2]bool{5: {true, false}, 10: {true, true}, 15: {true, false}, 1001: {false, false}, 1005: {true, false}, 0: {false, false}} {
		if got := [2]bool{spec.IsPrice(s, n), spec.IsQty(s, n)}; got != want {
			t.Errorf("IsPrice, IsQty of %d: %v, want %v", n, got, want)
		}
	}
}

// P4.1: numbers that are just so far apart, and such whose difference does not fit.
func TestInBand(t *testing.T) {
	s := sample()
	for _, c := range []struct {
		at, price int64
		want      bool
	}{
		{1000, 1100, true}, {1000, 1105, false}, {1000, 1101, false}, {1000, 900, true}, {1000, 899, false},
		{1100, 1000, true}, {1000, 1000, true}, {1105, 1000, false}, {1, 101, true}, {1, 102, false},
	} {
		if got := spec.InBand(s, c.at, c.price); got != c.want {
			t.Errorf("InBand of %d, %d: %v", c.at, c.price, got)
		}
	}
	r := rand.New(rand.NewSource(41))
	numbers := []int64{least, least + 1, least + 100, least + 10_000_000, -10_000_000, -1, 0, 1, 100, 10_000_000, 10_000_001, greatest - 10_000_000, greatest - 1, greatest}
	for range 20 {
		numbers = append(numbers, int64(r.Uint64())>>r.Intn(64))
	}
	for _, band := range []int64{0, 1, 100, 9_999_999, 10_000_000} {
		s.Band = band
		for _, at := range numbers {
			for _, price := range numbers {
				apart := new(big.Int).Sub(big.NewInt(at), big.NewInt(price))
				if want := apart.CmpAbs(big.NewInt(band)) <= 0; spec.InBand(s, at, price) != want {
					t.Errorf("InBand of %d, %d, Band %d: %v", at, price, band, !want)
				}
			}
		}
	}
}

// P4.1: of data that may not be nothing is a price, a quantity or within the band.
func TestNothingOfBadData(t *testing.T) {
	numbers := []int64{least, -1000, -10, -1, 0, 1, 5, 10, 1000, 1_000_000, 10_000_000, greatest}
	for name, s := range bad() {
		for _, n := range numbers {
			if spec.IsPrice(s, n) || spec.IsQty(s, n) || spec.InBand(s, n, n) {
				t.Errorf("%s: %d is a price, a quantity or within the band", name, n)
			}
		}
	}
}
