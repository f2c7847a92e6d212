package scan_test

import (
	"math/big"
	"math/rand"
	"slices"
	"testing"

	"broadside/api"
	"broadside/scan"
)

// modelScan is a scan as the chapter's words have it, in numbers that have no end.
func modelScan(shifts [16]int64, q int64) *big.Int {
	losses := []*big.Int{new(big.Int)}
	for _, shift := range shifts {
		loss := new(big.Int).Mul(big.NewInt(q), big.NewInt(shift))
		losses = append(losses, loss.Neg(loss))
	}
	return slices.MaxFunc(losses, (*big.Int).Cmp)
}

// modelRoute is a route's margin as the chapter's words have it: its legs by themselves, those of 0 too.
func modelRoute(l []api.Leg) *big.Int {
	scans, longs, shorts := new(big.Int), new(big.Int), new(big.Int)
	var credits []int64
	for _, g := range l {
		scans.Add(scans, modelScan(g.Spec.Shifts, g.Q))
		switch {
		case g.Q > 0:
			longs.Add(longs, big.NewInt(g.Q))
		case g.Q < 0:
			shorts.Sub(shorts, big.NewInt(g.Q))
		}
		if g.Q != 0 {
			credits = append(credits, g.Spec.Credit)
		}
	}
	if len(credits) == 0 {
		return scans
	}
	smaller := slices.MinFunc([]*big.Int{longs, shorts}, (*big.Int).Cmp)
	margin := new(big.Int).Mul(smaller, big.NewInt(slices.Min(credits)))
	margin.Sub(scans, margin)
	return slices.MaxFunc([]*big.Int{margin, new(big.Int)}, (*big.Int).Cmp)
}

// modelMargin is the margin: each route's legs together.
func modelMargin(l []api.Leg) *big.Int {
	routes := map[uint8][]api.Leg{}
	for _, g := range l {
		routes[g.Spec.Route] = append(routes[g.Spec.Route], g)
	}
	sum := new(big.Int)
	for _, part := range routes {
		sum.Add(sum, modelRoute(part))
	}
	return sum
}

// within is a number by chance from -most to most, often a small one, nought, or an end.
func within(r *rand.Rand, most int64) int64 {
	switch r.Intn(8) {
	case 0:
		return 0
	case 1:
		return most
	case 2:
		return -most
	case 3, 4:
		return r.Int63n(2*most+1) - most
	}
	small := min(most, 100)
	return r.Int63n(2*small+1) - small
}

// chanceShifts are shifts by chance, one of them up and one down.
func chanceShifts(r *rand.Rand) [16]int64 {
	var shifts [16]int64
	for i := range shifts {
		shifts[i] = within(r, mostPrice)
	}
	for i, at := range r.Perm(16)[:2] {
		shifts[at] = int64(1-2*i) * (1 + r.Int63n(mostPrice))
	}
	return shifts
}

// chanceLegs are legs by chance, of so many routes.
func chanceLegs(r *rand.Rand, routes int) []api.Leg {
	var l []api.Leg
	for _, n := range r.Perm(30)[:r.Intn(17)] {
		credit := within(r, mostPrice)
		g := leg(uint32(n)+1, uint8(1+r.Intn(routes)), max(credit, -credit), within(r, mostPosition))
		if r.Intn(3) > 0 {
			g.Spec.Shifts = chanceShifts(r)
		}
		l = append(l, g)
	}
	return l
}

// margins lets legs by chance be asked, of one route, of few and of all.
func margins(t *testing.T, seed int64, each func(r *rand.Rand, l []api.Leg, margin int64)) {
	r := rand.New(rand.NewSource(seed))
	for i := range 6000 {
		l := chanceLegs(r, []int{1, 2, 8}[i%3])
		margin, e := scan.Margin(l)
		if e != api.OK {
			t.Fatalf("%v: error %d", l, e)
		}
		each(r, l, margin)
		if t.Failed() {
			return
		}
	}
}

// scans lets shifts and quantities by chance be asked.
func scans(t *testing.T, seed int64, each func(r *rand.Rand, shifts [16]int64, q int64)) {
	r := rand.New(rand.NewSource(seed))
	for range 6000 {
		shifts := chanceShifts(r)
		if r.Intn(4) == 0 {
			shifts = all(within(r, mostPrice))
		}
		each(r, shifts, within(r, mostScan))
		if t.Failed() {
			return
		}
	}
}

// scanned is the scan of what may be.
func scanned(t *testing.T, shifts [16]int64, q int64) int64 {
	t.Helper()
	n, e := scan.Scan(shifts, q)
	if e != api.OK {
		t.Errorf("Scan of %v, %d: error %d", shifts, q, e)
	}
	return n
}

// P10.1: whatever the shifts and the quantity, a scan is what the words say.
func TestScanAsTheModel(t *testing.T) {
	scans(t, 101, func(_ *rand.Rand, shifts [16]int64, q int64) {
		if got, want := scanned(t, shifts, q), modelScan(shifts, q); want.Cmp(big.NewInt(got)) != 0 {
			t.Errorf("Scan of %v, %d: %d, want %v", shifts, q, got, want)
		}
	})
}

// P10.2: whatever the legs, the margin is what the words say.
func TestMarginAsTheModel(t *testing.T) {
	nothing, credited := 0, 0
	margins(t, 102, func(_ *rand.Rand, l []api.Leg, margin int64) {
		if want := modelMargin(l); want.Cmp(big.NewInt(margin)) != 0 {
			t.Errorf("Margin of %v: %d, want %v", l, margin, want)
		}
		sum := int64(0)
		for _, g := range l {
			sum += scanned(t, g.Spec.Shifts, g.Q)
		}
		switch {
		case margin == 0 && sum > 0:
			nothing++
		case margin < sum:
			credited++
		}
	})
	if nothing == 0 || credited == 0 {
		t.Errorf("%d margins were 0, %d less than the scans", nothing, credited)
	}
}

// P10.3: a scan of 0 is 0, and on either side a greater quantity's is no smaller.
func TestScanGrows(t *testing.T) {
	scans(t, 103, func(r *rand.Rand, shifts [16]int64, q int64) {
		if n := scanned(t, shifts, 0); n != 0 {
			t.Errorf("Scan of %v, 0: %d", shifts, n)
		}
		nearer := q
		if q != 0 {
			nearer = q / (1 + r.Int63n(max(q, -q)))
		}
		if scanned(t, shifts, nearer) > scanned(t, shifts, q) {
			t.Errorf("%v: the scan of %d is more than that of %d", shifts, nearer, q)
		}
	})
}

// P10.3: a scan of a sum is never more than both together.
func TestScanOfASum(t *testing.T) {
	less := 0
	scans(t, 104, func(r *rand.Rand, shifts [16]int64, q int64) {
		a := within(r, mostScan)
		b := q - a
		if max(b, -b) > mostScan {
			return
		}
		both, sum := scanned(t, shifts, a)+scanned(t, shifts, b), scanned(t, shifts, q)
		if sum > both {
			t.Errorf("%v: the scan of %d is %d; of %d and %d %d", shifts, q, sum, a, b, both)
		}
		if sum < both {
			less++
		}
	})
	if less == 0 {
		t.Error("no sum's scan was less")
	}
}

// P10.3: the margin hangs on no order, nor on the contracts' numbers.
func TestMarginInAnyOrder(t *testing.T) {
	margins(t, 105, func(r *rand.Rand, l []api.Leg, margin int64) {
		r.Shuffle(len(l), func(i, j int) { l[i], l[j] = l[j], l[i] })
		holdMargin(t, "shuffled", l, margin, api.OK)
		for i := range l {
			l[i].Spec.Number = 4_294_967_295 - l[i].Spec.Number
		}
		holdMargin(t, "other numbers", l, margin, api.OK)
	})
}

// P10.3: a leg of 0 is nothing, wherever it stands, whatever its contract is.
func TestMarginWithALegOfNothing(t *testing.T) {
	margins(t, 106, func(r *rand.Rand, l []api.Leg, margin int64) {
		if len(l) == 16 {
			return
		}
		nothing := leg(99, uint8(1+r.Intn(8)), r.Int63n(3)*5_000_000, 0)
		nothing.Spec.Shifts = chanceShifts(r)
		holdMargin(t, "one of 0 more", slices.Insert(slices.Clone(l), r.Intn(len(l)+1), nothing), margin, api.OK)
		held := slices.DeleteFunc(slices.Clone(l), func(g api.Leg) bool { return g.Q == 0 })
		holdMargin(t, "none of 0", held, margin, api.OK)
	})
}

// P10.3: without credits the margin is the scans together; with them it is never more.
func TestMarginWithoutCredits(t *testing.T) {
	margins(t, 107, func(_ *rand.Rand, l []api.Leg, margin int64) {
		sum := int64(0)
		for i, g := range l {
			l[i].Spec.Credit = 0
			sum += scanned(t, g.Spec.Shifts, g.Q)
		}
		holdMargin(t, "without credits", l, sum, api.OK)
		if margin > sum || margin < 0 {
			t.Errorf("Margin of %v: %d with credits, %d without", l, margin, sum)
		}
	})
}
