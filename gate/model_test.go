package gate_test

import (
	"math/big"
	"math/rand"
	"testing"

	"broadside/api"
	"broadside/gate"
	"broadside/spec"
)

// among tells whether n is from low to high.
func among(n, low, high int64) bool { return low <= n && n <= high }

// modelWorst is the position at worst, in numbers that have no end.
func modelWorst(g api.Gate) *big.Int {
	worst := big.NewInt(g.Q)
	if g.Buy {
		worst.Add(worst, big.NewInt(g.Buys))
		return worst.Add(worst, big.NewInt(g.Qty))
	}
	worst.Sub(worst, big.NewInt(g.Sells))
	return worst.Sub(worst, big.NewInt(g.Qty))
}

// modelCheck is the first of what the chapter's words name that is so.
func modelCheck(g api.Gate) api.Errno {
	s := g.Contract.Spec
	limit := big.NewInt(s.Limit)
	if !g.Buy {
		limit.Neg(limit)
	}
	states := map[api.ContractState]api.Errno{1: api.OK, 2: api.ErrHalted, 3: api.ErrExpired}
	state, known := states[g.Contract.State]
	apart := new(big.Int).Sub(big.NewInt(g.Contract.Price), big.NewInt(g.Price))
	numbers := among(g.Contract.Price, 1, mostPrice) && s.Tick > 0 && g.Contract.Price%s.Tick == 0 &&
		among(g.Buys, 0, mostScan) && among(g.Sells, 0, mostScan) && among(g.Q, -mostPosition, mostPosition)
	for _, x := range []struct {
		so   bool
		told api.Errno
	}{
		{g.Account.Default, api.ErrDefault},
		{g.Account.Killed, api.ErrKilled},
		{known && state != api.OK, state},
		{!known, api.ErrArg},
		{!spec.May(s) || !numbers, api.ErrArg},
		{!among(g.Qty, 1, mostQty) || s.Lot <= 0 || g.Qty%s.Lot != 0, api.ErrQty},
		{!among(g.Price, 1, mostPrice) || s.Tick <= 0 || g.Price%s.Tick != 0, api.ErrPrice},
		{apart.CmpAbs(big.NewInt(s.Band)) > 0, api.ErrBand},
		{g.Buy && modelWorst(g).Cmp(limit) > 0, api.ErrLimit},
		{!g.Buy && modelWorst(g).Cmp(limit) < 0, api.ErrLimit},
	} {
		if x.so {
			return x.told
		}
	}
	return api.OK
}

// chance is a number by chance from 0 to most, often a small one, nought, or the end; seldom one beyond it.
func chance(r *rand.Rand, most int64) int64 {
	switch r.Intn(40) {
	case 0:
		return 0
	case 1, 2:
		return most
	case 3:
		return most + 1
	case 4:
		return -1
	case 5:
		return int64(r.Uint64())
	case 6, 7, 8, 9, 10:
		return r.Int63n(most + 1)
	}
	return r.Int63n(min(most, 120) + 1)
}

// chanceSpec are a contract's data by chance, that nearly always may be.
func chanceSpec(r *rand.Rand) api.Spec {
	s := api.Spec{Number: 1, Route: uint8(1 + r.Intn(8)), Tick: 1 + r.Int63n(6), Lot: 1 + r.Int63n(12)}
	s.Band, s.Limit = chance(r, mostPrice), 1+chance(r, mostPosition-1)
	s.First = s.Tick * (1 + r.Int63n(200))
	s.Shifts[r.Intn(8)], s.Shifts[8+r.Intn(8)] = 1+r.Int63n(mostPrice), -1-r.Int63n(mostPrice)
	if r.Intn(40) == 0 {
		s.First++
	}
	return s
}

// chanceGate is a gate by chance: nothing at it is wrong, or little.
func chanceGate(r *rand.Rand) api.Gate {
	s := chanceSpec(r)
	g := api.Gate{
		Contract: api.Contract{Spec: s, State: api.Open, Price: s.Tick * (1 + r.Int63n(200))},
		Account:  api.Account{Number: r.Uint32(), Cash: int64(r.Uint64()), Default: r.Intn(40) == 0, Killed: r.Intn(40) == 0},
		Q:        chance(r, mostPosition) * int64(1-2*r.Intn(2)),
		Buys:     chance(r, mostScan), Sells: chance(r, mostScan),
		Buy: r.Intn(2) == 0,
		Qty: s.Lot * (1 + r.Int63n(10)),
	}
	g.Price = g.Contract.Price + s.Tick*(r.Int63n(60)-30)
	switch r.Intn(40) {
	case 0:
		g.Contract.State = api.ContractState(r.Intn(6))
	case 1:
		g.Qty = chance(r, mostQty)
	case 2:
		g.Price = chance(r, mostPrice)
	case 3:
		g.Contract.Price = chance(r, mostPrice)
	}
	return g
}

// gates lets gates by chance be asked.
func gates(t *testing.T, seed int64, each func(r *rand.Rand, g api.Gate, e api.Errno)) {
	r := rand.New(rand.NewSource(seed))
	for range 60000 {
		g := chanceGate(r)
		each(r, g, gate.Check(g))
		if t.Failed() {
			return
		}
	}
}

// P12.1: what is told is what the words tell; and nothing is told that does not come about here.
func TestCheckByModel(t *testing.T) {
	seen := map[api.Errno]int{}
	gates(t, 1, func(_ *rand.Rand, g api.Gate, e api.Errno) {
		if want := modelCheck(g); e != want {
			t.Errorf("%+v: Check answers %d, want %d", g, e, want)
		}
		seen[e]++
	})
	for _, e := range []api.Errno{
		api.OK, api.ErrDefault, api.ErrKilled, api.ErrExpired, api.ErrHalted, api.ErrArg,
		api.ErrQty, api.ErrPrice, api.ErrBand, api.ErrLimit,
	} {
		if seen[e] < 100 {
			t.Errorf("error %d came about %d times", e, seen[e])
		}
	}
}

// less is a number by chance from 0 to n.
func less(r *rand.Rand, n int64) int64 { return r.Int63n(n + 1) }

// nearer is a price by chance from the gate's own to the one that counts.
func nearer(r *rand.Rand, g api.Gate) int64 {
	tick := g.Contract.Spec.Tick
	steps := (g.Contract.Price - g.Price) / tick
	if steps < 0 {
		return g.Price - tick*less(r, -steps)
	}
	return g.Price + tick*less(r, steps)
}

// P12.1: what passes the gate passes it with less open, and nearer to the Price.
func TestPassesWithLess(t *testing.T) {
	gates(t, 2, func(r *rand.Rand, g api.Gate, e api.Errno) {
		if e != api.OK {
			return
		}
		g.Buys, g.Sells = less(r, g.Buys), less(r, g.Sells)
		holdCheck(t, "with less open", g, api.OK)
		g.Price = nearer(r, g)
		holdCheck(t, "with less open, nearer", g, api.OK)
		g.Price = g.Contract.Price
		holdCheck(t, "at the Price", g, api.OK)
	})
}

// P12.1: what is refused for the limit alone passes with a Limit that is great enough, and with none that is smaller.
func TestPassesWithLimit(t *testing.T) {
	gates(t, 3, func(_ *rand.Rand, g api.Gate, e api.Errno) {
		enough := modelWorst(g)
		if !g.Buy {
			enough.Neg(enough)
		}
		// No contract's Limit is greater.
		if e != api.ErrLimit || enough.Cmp(big.NewInt(mostPosition)) > 0 {
			return
		}
		g.Contract.Spec.Limit = enough.Int64()
		holdCheck(t, "with a Limit that is enough", g, api.OK)
		g.Contract.Spec.Limit = mostPosition
		holdCheck(t, "with the greatest Limit", g, api.OK)
		g.Contract.Spec.Limit = enough.Int64() - 1
		holdCheck(t, "with a Limit that is one less", g, api.ErrLimit)
	})
}

// P12.1: which side it is on does not count, when all else is turned round.
func TestTurnedRound(t *testing.T) {
	gates(t, 4, func(_ *rand.Rand, g api.Gate, e api.Errno) {
		// The least number has no other side.
		if g.Q == least {
			return
		}
		g.Buy, g.Q, g.Buys, g.Sells = !g.Buy, -g.Q, g.Sells, g.Buys
		holdCheck(t, "turned round", g, e)
	})
}

// P12.2: an account by chance may cancel.
func TestCheckCancelByChance(t *testing.T) {
	r := rand.New(rand.NewSource(5))
	for range 1000 {
		a := api.Account{Number: 1 + uint32(r.Int31()), Cash: int64(r.Uint64()), Killed: r.Intn(2) == 0, Default: r.Intn(2) == 0}
		if e := gate.CheckCancel(a); e != api.OK {
			t.Errorf("%+v: CheckCancel answers %d", a, e)
		}
	}
}
