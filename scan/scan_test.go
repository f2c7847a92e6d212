package scan_test

import (
	"math"
	"slices"
	"testing"

	"broadside/api"
	"broadside/scan"
)

const (
	least        = math.MinInt64
	greatest     = math.MaxInt64
	mostPrice    = int64(10_000_000)
	mostPosition = int64(10_000_000)
	mostScan     = int64(1_000_000_000)
)

// shifted is a list of shifts: these at their beginning, the others 0.
func shifted(l ...int64) [16]int64 {
	var shifts [16]int64
	copy(shifts[:], l)
	return shifts
}

// all is a list of shifts that are alike.
func all(shift int64) [16]int64 {
	return [16]int64(slices.Repeat([]int64{shift}, 16))
}

// leg is a quantity in a contract with the chapter's shifts.
func leg(number uint32, route uint8, credit, q int64) api.Leg {
	s := api.Spec{Number: number, Route: route, Tick: 1, Lot: 1, Limit: 1, Credit: credit, First: 1}
	s.Shifts[5], s.Shifts[10] = 50, -40
	return api.Leg{Spec: s, Q: q}
}

// widest is a quantity in a contract whose shifts and Credit are as great as may be.
func widest(number uint32, route uint8, q int64) api.Leg {
	g := leg(number, route, mostPrice, q)
	g.Spec.Shifts = shifted(mostPrice, -mostPrice)
	return g
}

// many are so many legs of one route, by rising numbers, each of a quantity of 1.
func many(n int) []api.Leg {
	var l []api.Leg
	for i := range n {
		l = append(l, leg(uint32(i+1), 1, 0, 1))
	}
	return l
}

// changed is a leg with something changed.
func changed(g api.Leg, change func(g *api.Leg)) api.Leg {
	change(&g)
	return g
}

func holdScan(t *testing.T, name string, shifts [16]int64, q, want int64, wantE api.Errno) {
	t.Helper()
	if n, e := scan.Scan(shifts, q); n != want || e != wantE {
		t.Errorf("%s: Scan of %d answers %d, error %d; want %d, error %d", name, q, n, e, want, wantE)
	}
}

// holdMargin: that is the margin of the legs, which stay as they are.
func holdMargin(t *testing.T, name string, l []api.Leg, want int64, wantE api.Errno) {
	t.Helper()
	before := slices.Clone(l)
	if n, e := scan.Margin(l); n != want || e != wantE {
		t.Errorf("%s: Margin answers %d, error %d; want %d, error %d", name, n, e, want, wantE)
	}
	if !slices.Equal(l, before) {
		t.Errorf("%s: Margin writes to its legs", name)
	}
}

// The chapter's examples.
func TestExamples(t *testing.T) {
	shifts := shifted(50, -40)
	for q, want := range map[int64]int64{3: 120, -3: 150, 0: 0} {
		holdScan(t, "example", shifts, q, want, api.OK)
	}
	holdMargin(t, "one route", []api.Leg{leg(1, 1, 30, 3), leg(2, 1, 10, -3)}, 240, api.OK)
	holdMargin(t, "two routes", []api.Leg{leg(1, 1, 30, 3), leg(2, 2, 10, -3)}, 270, api.OK)
}

// P10.1: a loss counts wherever its shift stands, and none counts that is not the greatest.
func TestScanPlaces(t *testing.T) {
	for i := range 16 {
		for j := range 16 {
			if i == j {
				continue
			}
			shifts := all(0)
			shifts[i], shifts[j] = 7, -9
			holdScan(t, "two shifts, bought", shifts, 5, 45, api.OK)
			holdScan(t, "two shifts, sold", shifts, -5, 35, api.OK)
			shifts = all(1)
			shifts[i], shifts[j] = -3, -2
			holdScan(t, "two below 0", shifts, 4, 12, api.OK)
			holdScan(t, "two below 0, sold", shifts, -4, 4, api.OK)
		}
	}
}

// P10.1: what never loses is 0; shifts need go neither both ways nor any.
func TestScanNothingLost(t *testing.T) {
	holdScan(t, "up alone", all(6), 5, 0, api.OK)
	holdScan(t, "up alone, sold", all(6), -5, 30, api.OK)
	holdScan(t, "down alone", all(-6), -5, 0, api.OK)
	holdScan(t, "down alone, bought", all(-6), 5, 30, api.OK)
	for _, q := range []int64{-mostScan, -1, 0, 1, mostScan} {
		holdScan(t, "no shift", all(0), q, 0, api.OK)
	}
}

// P10.1: quantities up to their bound, and not beyond.
func TestScanQuantities(t *testing.T) {
	shifts := shifted(3, -2)
	for _, c := range [][2]int64{
		{1, 2}, {-1, 3}, {mostPosition + 1, 2 * (mostPosition + 1)}, {mostScan - 1, 2 * (mostScan - 1)}, {mostScan, 2 * mostScan}, {1 - mostScan, 3 * (mostScan - 1)}, {-mostScan, 3 * mostScan},
	} {
		holdScan(t, "within", shifts, c[0], c[1], api.OK)
	}
	for _, q := range []int64{mostScan + 1, -mostScan - 1, 1 << 32, 1 << 62, -1 << 62, least, least + 1, greatest} {
		holdScan(t, "beyond", shifts, q, 0, api.ErrArg)
		holdScan(t, "beyond, no shift", all(0), q, 0, api.ErrArg)
		holdScan(t, "beyond, shifts too", all(greatest), q, 0, api.ErrArg)
	}
}

// P10.1: shifts up to their bound, wherever they stand, and not beyond, whatever the quantity.
func TestScanShifts(t *testing.T) {
	for i := range 16 {
		for _, shift := range []int64{mostPrice - 1, mostPrice} {
			shifts := all(0)
			shifts[i] = shift
			holdScan(t, "up", shifts, -mostScan, shift*mostScan, api.OK)
			holdScan(t, "up, bought", shifts, mostScan, 0, api.OK)
			shifts[i] = -shift
			holdScan(t, "down", shifts, mostScan, shift*mostScan, api.OK)
			holdScan(t, "down, sold", shifts, -mostScan, 0, api.OK)
		}
		for _, shift := range []int64{mostPrice + 1, -mostPrice - 1, 1 << 32, 1 << 62, least, least + 1, greatest} {
			shifts := shifted(3, -2)
			shifts[i] = shift
			for _, q := range []int64{0, 1, -1, mostScan, -mostScan, mostScan + 1, least, greatest} {
				holdScan(t, "beyond", shifts, q, 0, api.ErrArg)
			}
		}
	}
}

// P10.2: of no legs there is no margin.
func TestMarginOfNone(t *testing.T) {
	holdMargin(t, "nil", nil, 0, api.OK)
	holdMargin(t, "empty", []api.Leg{}, 0, api.OK)
	holdMargin(t, "one of 0", []api.Leg{leg(1, 1, 30, 0)}, 0, api.OK)
}

// P10.2: sixteen legs, and no more; more are ErrLong, whatever else they are.
func TestMarginLong(t *testing.T) {
	holdMargin(t, "fifteen", many(15), 15*40, api.OK)
	holdMargin(t, "sixteen", many(16), 16*40, api.OK)
	for _, n := range []int{17, 18, 32, 100} {
		l := many(n)
		holdMargin(t, "more", l, 0, api.ErrLong)
		l[n-1].Spec.Number = 1
		holdMargin(t, "more, two of one number", l, 0, api.ErrLong)
		l[0].Q = greatest
		holdMargin(t, "more, one that may not be", l, 0, api.ErrLong)
		holdMargin(t, "more, none of which may be", make([]api.Leg, n), 0, api.ErrLong)
	}
}

// bad are legs that may not be, all of the contract 3.
func bad() map[string]api.Leg {
	l := map[string]api.Leg{}
	for name, change := range map[string]func(g *api.Leg){
		"Route 0":      func(g *api.Leg) { g.Spec.Route = 0 },
		"Route 9":      func(g *api.Leg) { g.Spec.Route = 9 },
		"Route 255":    func(g *api.Leg) { g.Spec.Route = 255 },
		"Tick 0":       func(g *api.Leg) { g.Spec.Tick = 0 },
		"Lot 0":        func(g *api.Leg) { g.Spec.Lot = 0 },
		"Band below":   func(g *api.Leg) { g.Spec.Band = -1 },
		"Limit 0":      func(g *api.Leg) { g.Spec.Limit = 0 },
		"none up":      func(g *api.Leg) { g.Spec.Shifts[5] = 0 },
		"none down":    func(g *api.Leg) { g.Spec.Shifts[10] = 0 },
		"Shift above":  func(g *api.Leg) { g.Spec.Shifts[0] = mostPrice + 1 },
		"Shift least":  func(g *api.Leg) { g.Spec.Shifts[15] = least },
		"Credit below": func(g *api.Leg) { g.Spec.Credit = -1 },
		"Credit above": func(g *api.Leg) { g.Spec.Credit = mostPrice + 1 },
		"First 0":      func(g *api.Leg) { g.Spec.First = 0 },
		"Q above":      func(g *api.Leg) { g.Q = mostPosition + 1 },
		"Q below":      func(g *api.Leg) { g.Q = -mostPosition - 1 },
		"Q mostScan":   func(g *api.Leg) { g.Q = mostScan },
		"Q least":      func(g *api.Leg) { g.Q = least },
		"Q greatest":   func(g *api.Leg) { g.Q = greatest },
	} {
		l[name] = changed(leg(3, 1, 30, 5), change)
		if name[0] != 'Q' {
			l[name+", of 0"] = changed(leg(3, 1, 30, 0), change)
		}
	}
	return l
}

// P10.2: a leg that may not be, alone and wherever it stands, ahead of two of one number.
func TestMarginArg(t *testing.T) {
	holdMargin(t, "zero", []api.Leg{{}}, 0, api.ErrArg)
	holdMargin(t, "two zero ones", []api.Leg{{}, {}}, 0, api.ErrArg)
	holdMargin(t, "Number 0", []api.Leg{leg(1, 1, 0, 1), leg(0, 1, 0, 1)}, 0, api.ErrArg)
	for name, g := range bad() {
		holdMargin(t, name, []api.Leg{g}, 0, api.ErrArg)
		for i := range 16 {
			l := many(16)
			l[i] = g
			l[i].Spec.Number = uint32(i + 1)
			holdMargin(t, name+" among others", l, 0, api.ErrArg)
			l[(i+5)%16].Spec.Number = l[(i+6)%16].Spec.Number
			holdMargin(t, name+" beside two of one number", l, 0, api.ErrArg)
		}
		holdMargin(t, name+" twice", []api.Leg{g, g}, 0, api.ErrArg)
		holdMargin(t, name+" behind one of its number", []api.Leg{leg(3, 1, 30, 5), g}, 0, api.ErrArg)
	}
}

// P10.2: two of one number, wherever they stand, whatever else of them differs.
func TestMarginTwice(t *testing.T) {
	for i := range 16 {
		for j := range i {
			l := many(16)
			l[i].Spec.Number = l[j].Spec.Number
			holdMargin(t, "twice", l, 0, api.ErrTwice)
			l[i].Spec.Route, l[i].Spec.Credit = 8, 9
			holdMargin(t, "twice, of two routes", l, 0, api.ErrTwice)
			l[i].Q, l[j].Q = 0, 0
			holdMargin(t, "twice, of 0", l, 0, api.ErrTwice)
		}
	}
	g := leg(math.MaxUint32, 1, 3, 2)
	holdMargin(t, "the last number", []api.Leg{g}, 80, api.OK)
	holdMargin(t, "the last number twice", []api.Leg{g, g}, 0, api.ErrTwice)
	holdMargin(t, "all of one number", slices.Repeat([]api.Leg{g}, 16), 0, api.ErrTwice)
}

// P10.2: numbers that are alike in their lower bits alone are two contracts'.
func TestMarginNumbers(t *testing.T) {
	for _, n := range []uint32{2, 1<<8 + 1, 1<<16 + 1, 1<<24 + 1, 1<<31 + 1, math.MaxUint32} {
		holdMargin(t, "two numbers", []api.Leg{leg(1, 1, 3, 2), leg(n, 1, 3, 2)}, 160, api.OK)
	}
}

// P10.2: quantities up to their bound.
func TestMarginQuantities(t *testing.T) {
	for _, c := range [][2]int64{{mostPosition, 40 * mostPosition}, {-mostPosition, 50 * mostPosition}, {mostPosition - 1, 40 * (mostPosition - 1)}, {1, 40}, {-1, 50}} {
		holdMargin(t, "alone", []api.Leg{leg(1, 8, mostPrice, c[0])}, c[1], api.OK)
	}
}

// P10.2: each route counts for itself, the first and the last one too.
func TestMarginRoutes(t *testing.T) {
	for route := range uint8(8) {
		l := []api.Leg{leg(1, route+1, 7, 3), leg(2, route+1, 9, -2)}
		holdMargin(t, "one route", l, 220-14, api.OK)
		for other := range uint8(8) {
			if other == route {
				continue
			}
			l[1].Spec.Route = other + 1
			holdMargin(t, "two routes", l, 220, api.OK)
			both := []api.Leg{leg(1, route+1, 7, 3), leg(2, other+1, 1, -5), leg(3, route+1, 9, -2), leg(4, other+1, 4, 6)}
			holdMargin(t, "a spread along each", both, 220-14+490-5, api.OK)
		}
	}
}

// P10.2: the smaller of longs and shorts has a credit, each put together from several legs.
func TestMarginSpreads(t *testing.T) {
	for _, c := range []struct {
		name string
		qs   []int64
		want int64
	}{
		{"longs alone", []int64{2, 3, 4}, 9 * 40},
		{"shorts alone", []int64{-2, -3, -4}, 9 * 50},
		{"longs are less", []int64{2, 3, -9}, 5*40 + 9*50 - 5*6},
		{"shorts are less", []int64{-2, 9, -3}, 9*40 + 5*50 - 5*6},
		{"alike", []int64{4, -7, 3}, 7*40 + 7*50 - 7*6},
		{"two against two", []int64{5, -1, -8, 6}, 11*40 + 9*50 - 9*6},
	} {
		var l []api.Leg
		for i, q := range c.qs {
			l = append(l, leg(uint32(i+1), 4, 6, q))
		}
		holdMargin(t, c.name, l, c.want, api.OK)
	}
}

// P10.2: the least Credit of the route's legs counts, wherever it stands; not that of a leg of 0, nor that of another route's.
func TestMarginRate(t *testing.T) {
	for i := range 4 {
		l := []api.Leg{leg(1, 2, 20, 5), leg(2, 2, 20, -3), leg(3, 2, 20, 4), leg(4, 2, 20, -1)}
		scans := int64(9*40 + 4*50)
		holdMargin(t, "one Credit", l, scans-4*20, api.OK)
		l[i].Spec.Credit = 11
		holdMargin(t, "one less", l, scans-4*11, api.OK)
		l[i].Spec.Credit = 0
		holdMargin(t, "one 0", l, scans, api.OK)
		l[i].Spec.Route = 3
		l[i].Spec.Credit = 1
		q := l[i].Q
		l = append(l, leg(5, 2, 20, q))
		apart := l[i]
		alone, _ := scan.Scan(apart.Spec.Shifts, apart.Q)
		holdMargin(t, "one of another route", l, scans+alone-4*20, api.OK)
		l[i].Spec.Route, l[i].Spec.Credit, l[i].Q = 2, 0, 0
		holdMargin(t, "a leg of 0", l, scans-4*20, api.OK)
	}
}

// P10.2: a route's margin is 0, where its credit is more than its scans; what is left over is nobody else's.
func TestMarginAtLeastNothing(t *testing.T) {
	for credit, want := range map[int64]int64{0: 90, 89: 1, 90: 0, 91: 0, 1000: 0, mostPrice: 0} {
		l := []api.Leg{leg(1, 1, credit, 1), leg(2, 1, credit, -1)}
		holdMargin(t, "one route", l, want, api.OK)
		holdMargin(t, "beside another one", append(l, leg(3, 2, credit, 1)), want+40, api.OK)
	}
}

// P10.1, P10.2: nothing wraps where all is as great as may be.
func TestGreatest(t *testing.T) {
	var longs, spreads, uneven []api.Leg
	for i := range uint32(16) {
		q := mostPosition * int64(1-int(i)%2*2)
		longs = append(longs, widest(i+1, 1, mostPosition))
		spreads = append(spreads, widest(i+1, uint8(i/2%8)+1, q))
		uneven = append(uneven, widest(i+1, 8, q))
	}
	each := mostPrice * mostPosition
	uneven[15].Q = mostPosition
	holdMargin(t, "longs", longs, 16*each, api.OK)
	holdMargin(t, "spreads", spreads, 16*each-8*each, api.OK)
	holdMargin(t, "nine and seven", uneven, 16*each-7*each, api.OK)
	holdScan(t, "bought", shifted(mostPrice, -mostPrice), mostScan, mostPrice*mostScan, api.OK)
	holdScan(t, "sold", shifted(mostPrice, -mostPrice), -mostScan, mostPrice*mostScan, api.OK)
}
