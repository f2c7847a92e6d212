package settle_test

import (
	"math/big"
	"math/rand"
	"slices"
	"testing"

	"broadside/api"
	"broadside/settle"
)

// The model reckons in numbers that have no end.
func number(n int64) *big.Int      { return big.NewInt(n) }
func plus(a, b *big.Int) *big.Int  { return new(big.Int).Add(a, b) }
func less(a, b *big.Int) *big.Int  { return new(big.Int).Sub(a, b) }
func times(a, b *big.Int) *big.Int { return new(big.Int).Mul(a, b) }

// among tells whether n is from low to high.
func among(n, low, high int64) bool { return low <= n && n <= high }

// modelError is the first of what the chapter's words name that is so.
func modelError(fund int64, l []api.Due) api.Errno {
	if len(l) > mostAccounts {
		return api.ErrLong
	}
	if !among(fund, 0, mostFunds) {
		return api.ErrArg
	}
	sum := number(0)
	for i, d := range l {
		if d.Account == 0 || i > 0 && d.Account <= l[i-1].Account {
			return api.ErrArg
		}
		if !among(d.Cash, 0, mostFunds) || !among(d.V, -mostMoney, mostMoney) {
			return api.ErrArg
		}
		sum = plus(sum, number(d.V))
	}
	if sum.Sign() != 0 {
		return api.ErrSum
	}
	return api.OK
}

// modelDeficit is what a due lacks, or 0.
func modelDeficit(d api.Due) *big.Int {
	left := plus(number(d.Cash), number(d.V))
	if left.Sign() >= 0 {
		return number(0)
	}
	return left.Neg(left)
}

// modelMissing are all deficits together.
func modelMissing(l []api.Due) *big.Int {
	sum := number(0)
	for _, d := range l {
		sum = plus(sum, modelDeficit(d))
	}
	return sum
}

// modelCuts splits n by what each has won, a nought for the others; what is left over goes one by one to the first of the greatest rests that has had none.
func modelCuts(n *big.Int, l []api.Due) []*big.Int {
	all := number(0)
	for _, d := range l {
		all = plus(all, number(max(d.V, 0)))
	}
	cuts, rests, left := make([]*big.Int, len(l)), make([]*big.Int, len(l)), n
	for i, d := range l {
		cuts[i], rests[i] = number(0), number(0)
		if d.V > 0 {
			cuts[i], rests[i] = new(big.Int).QuoRem(times(n, number(d.V)), all, new(big.Int))
		}
		left = less(left, cuts[i])
	}
	for ; left.Sign() > 0; left = less(left, number(1)) {
		best := 0
		for i, r := range rests {
			if r.Cmp(rests[best]) > 0 {
				best = i
			}
		}
		cuts[best], rests[best] = plus(cuts[best], number(1)), number(-1)
	}
	return cuts
}

// modelSettle is what the chapter's words make of dues that may be settled.
func modelSettle(fund int64, l []api.Due) ([]api.Settled, int64) {
	missing, paid := modelMissing(l), number(fund)
	if missing.Cmp(paid) < 0 {
		paid = missing
	}
	cuts := modelCuts(less(missing, paid), l)
	var out []api.Settled
	for i, d := range l {
		s := api.Settled{Account: d.Account, Default: modelDeficit(d).Sign() > 0}
		if !s.Default {
			s.Cash, s.Cut = less(plus(number(d.Cash), number(d.V)), cuts[i]).Int64(), cuts[i].Int64()
		}
		out = append(out, s)
	}
	return out, less(number(fund), paid).Int64()
}

// chance is a number by chance from 0 to most, often a small one, nought, or the end.
func chance(r *rand.Rand, most int64) int64 {
	switch r.Intn(8) {
	case 0:
		return 0
	case 1:
		return most
	case 2, 3:
		return r.Int63n(most + 1)
	}
	return r.Int63n(min(most, 60) + 1)
}

// chanceDues are dues by chance that may be settled: what one has won others have lost.
func chanceDues(r *rand.Rand) []api.Due {
	n := r.Intn(12)
	if r.Intn(10) == 0 {
		n = r.Intn(mostAccounts + 1)
	}
	most := []int64{12, 500, mostFunds, mostMoney}[r.Intn(4)]
	var l []api.Due
	account := uint32(0)
	for range n {
		account += 1 + uint32(r.Intn(3)*r.Intn(1<<25))
		l = append(l, due(account, chance(r, mostFunds), 0))
	}
	for range 2 * n {
		from, to, v := r.Intn(n), r.Intn(n), chance(r, most)
		if l[from].V-v < -mostMoney || l[to].V+v > mostMoney {
			continue
		}
		l[from].V -= v
		l[to].V += v
	}
	for i := range l {
		// Cash that is about what was lost is where being in default begins.
		if lost := -l[i].V; lost > 0 && r.Intn(3) == 0 {
			l[i].Cash = min(max(lost+int64(r.Intn(3)-1), 0), mostFunds)
		}
	}
	return l
}

// chanceFund is a fund by chance, often about what is missing.
func chanceFund(r *rand.Rand, l []api.Due) int64 {
	missing := modelMissing(l)
	if r.Intn(2) == 0 || missing.Cmp(number(mostFunds)) > 0 {
		return chance(r, mostFunds)
	}
	m := missing.Int64()
	return min(max([]int64{m - 1, m, m + 1, m / 2, m - m/50}[r.Intn(5)], 0), mostFunds)
}

// settles lets dues by chance that may be be settled.
func settles(t *testing.T, seed int64, each func(r *rand.Rand, fund int64, l []api.Due, out []api.Settled, after int64)) {
	r := rand.New(rand.NewSource(seed))
	for range 20000 {
		l := chanceDues(r)
		fund := chanceFund(r, l)
		before := slices.Clone(l)
		out, after, e := settle.Settle(fund, l)
		if e != api.OK || len(out) != len(l) || !slices.Equal(l, before) {
			t.Fatalf("Settle(%d, %+v): %+v, fund %d, error %d", fund, before, out, after, e)
		}
		each(r, fund, l, out, after)
		if t.Failed() {
			t.Fatalf("Settle(%d, %+v): %+v, fund %d", fund, l, out, after)
		}
	}
}

// P13.1: what is told is what the words tell; and each of it comes about here.
func TestSettleByModel(t *testing.T) {
	defaulted, wasCut, left, emptied := 0, 0, 0, 0
	settles(t, 131, func(_ *rand.Rand, fund int64, l []api.Due, out []api.Settled, after int64) {
		want, wantAfter := modelSettle(fund, l)
		if !slices.Equal(out, want) || after != wantAfter {
			t.Errorf("want %+v, fund %d", want, wantAfter)
		}
		if slices.ContainsFunc(out, func(s api.Settled) bool { return s.Default }) {
			defaulted++
		}
		if slices.ContainsFunc(out, func(s api.Settled) bool { return s.Cut > 0 }) {
			wasCut++
		}
		if after > 0 && after < fund {
			left++
		}
		if after == 0 && fund > 0 {
			emptied++
		}
	})
	for _, n := range []int{defaulted, wasCut, left, emptied} {
		if n < 1000 {
			t.Errorf("%d defaults, %d cuts, %d funds that were taken from, %d that were emptied", defaulted, wasCut, left, emptied)
		}
	}
}

// spoil makes something of the dues or the fund such as may be wrong, or not.
func spoil(r *rand.Rand, fund int64, l []api.Due) (int64, []api.Due) {
	wild := []int64{-1, 0, 1, mostFunds, mostFunds + 1, mostMoney, mostMoney + 1, -mostMoney, -mostMoney - 1, least, greatest, int64(r.Uint64())}
	n := wild[r.Intn(len(wild))]
	if len(l) == 0 || r.Intn(8) == 0 {
		return n, l
	}
	at, other := r.Intn(len(l)), r.Intn(len(l))
	switch r.Intn(7) {
	case 0:
		l[at].Cash = n
	case 1:
		l[at].V = n
	case 2:
		l[at].V += int64(r.Intn(3) - 1)
	case 3:
		l[at].Account = l[other].Account
	case 4:
		l[at].Account = 0
	case 5:
		l[at], l[other] = l[other], l[at]
	case 6:
		for range r.Intn(2 * mostAccounts) {
			l = append(l, due(l[len(l)-1].Account+1, 0, 0))
		}
	}
	return fund, l
}

// P13.1: of all that is wrong the first error is told, and beside it nothing; what is not wrong is settled.
func TestSettleErrorsByModel(t *testing.T) {
	r := rand.New(rand.NewSource(132))
	seen := map[api.Errno]int{}
	for range 30000 {
		l := chanceDues(r)
		fund := chanceFund(r, l)
		for range 1 + r.Intn(3) {
			fund, l = spoil(r, fund, l)
		}
		want := modelError(fund, l)
		seen[want]++
		out, after, e := settle.Settle(fund, l)
		if e != want || e != api.OK && (len(out) != 0 || after != 0) {
			t.Fatalf("Settle(%d, %+v): %+v, fund %d, error %d; want error %d", fund, l, out, after, e, want)
		}
	}
	for _, e := range []api.Errno{api.OK, api.ErrLong, api.ErrArg, api.ErrSum} {
		if seen[e] < 500 {
			t.Errorf("error %d came about %d times", e, seen[e])
		}
	}
}

// P13.2: cash and fund together are what they were.
func TestNothingIsLost(t *testing.T) {
	settles(t, 133, func(_ *rand.Rand, fund int64, l []api.Due, out []api.Settled, after int64) {
		before, behind := number(fund), number(after)
		for i, d := range l {
			before, behind = plus(before, number(d.Cash)), plus(behind, number(out[i].Cash))
		}
		if before.Cmp(behind) != 0 {
			t.Errorf("cash and fund were %v together, and are %v", before, behind)
		}
	})
}

// P13.2: nobody has less than 0, the fund neither; nor is it more than it was.
func TestNobodyBelowNought(t *testing.T) {
	settles(t, 134, func(_ *rand.Rand, fund int64, _ []api.Due, out []api.Settled, after int64) {
		if !among(after, 0, fund) {
			t.Errorf("the fund was %d and is %d", fund, after)
		}
		for _, s := range out {
			if s.Cash < 0 || s.Cut < 0 {
				t.Errorf("%+v is below 0", s)
			}
		}
	})
}

// P13.2: who has won has no less than before, and is told as cut what is lacking; a cut is at most what was won.
func TestNobodyLosesByCut(t *testing.T) {
	settles(t, 135, func(_ *rand.Rand, _ int64, l []api.Due, out []api.Settled, _ int64) {
		for i, d := range l {
			if s := out[i]; d.V > 0 && (s.Cash < d.Cash || s.Cut > d.V || s.Cash != d.Cash+d.V-s.Cut || s.Default) {
				t.Errorf("%+v has become %+v", d, s)
			}
		}
	})
}

// P13.2: who is not in default and has not won has paid the whole, and is not cut.
func TestWhoCouldPayHasPaid(t *testing.T) {
	settles(t, 136, func(_ *rand.Rand, _ int64, l []api.Due, out []api.Settled, _ int64) {
		for i, d := range l {
			if s := out[i]; d.V <= 0 && !s.Default && s != has(d.Account, d.Cash+d.V) {
				t.Errorf("%+v has become %+v", d, s)
			}
		}
	})
}

// P13.2: with a fund that is enough nobody is cut, with another one somebody is, and the fund is empty ahead of that.
func TestFundAheadOfCuts(t *testing.T) {
	settles(t, 137, func(_ *rand.Rand, fund int64, l []api.Due, out []api.Settled, after int64) {
		wasCut := slices.ContainsFunc(out, func(s api.Settled) bool { return s.Cut != 0 })
		if enough := modelMissing(l).Cmp(number(fund)) <= 0; wasCut == enough {
			t.Errorf("the fund is enough: %v; somebody is cut: %v", enough, wasCut)
		}
		if wasCut && after != 0 {
			t.Errorf("somebody is cut, and the fund has %d", after)
		}
	})
}

// P13.3: nobody is in default who had as much cash as they lost, and whoever had less is, with nothing.
func TestWhoIsInDefault(t *testing.T) {
	settles(t, 138, func(_ *rand.Rand, _ int64, l []api.Due, out []api.Settled, _ int64) {
		for i, d := range l {
			if lost := max(-d.V, 0); out[i].Default != (d.Cash < lost) || out[i].Default && out[i] != defaults(d.Account) {
				t.Errorf("%+v has become %+v", d, out[i])
			}
		}
	})
}

// T10: who has won more is cut no less; whose winnings are alike are cut alike but for one, the one ahead first.
func TestCutsAreFair(t *testing.T) {
	settles(t, 139, func(_ *rand.Rand, _ int64, l []api.Due, out []api.Settled, _ int64) {
		for i, a := range l {
			for k, b := range l[:i] {
				early, late := out[k].Cut, out[i].Cut
				if a.V > b.V && late < early || b.V > a.V && early < late {
					t.Errorf("%+v and %+v: the one who has won more is cut less", out[k], out[i])
				}
				if a.V == b.V && !among(early-late, 0, 1) {
					t.Errorf("%+v and %+v have won alike", out[k], out[i])
				}
			}
		}
	})
}

// T8: other numbers in the same order change nothing but the numbers.
func TestRenamed(t *testing.T) {
	settles(t, 140, func(r *rand.Rand, fund int64, l []api.Due, out []api.Settled, after int64) {
		l, want := slices.Clone(l), slices.Clone(out)
		account := uint32(0)
		for i := range l {
			account += 1 + uint32(r.Intn(4)*r.Intn(1<<24))
			l[i].Account, want[i].Account = account, account
		}
		holdSettle(t, "renamed", fund, l, want, after)
	})
}
