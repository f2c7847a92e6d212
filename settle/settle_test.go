package settle_test

import (
	"math"
	"slices"
	"testing"

	"broadside/api"
	"broadside/settle"
)

const (
	least        = math.MinInt64
	greatest     = math.MaxInt64
	mostAccounts = 64
	mostFunds    = int64(1_000_000_000_000_000)
	mostMoney    = int64(100_000_000_000_000_000)
)

// due is one of an account, and has, cut and defaults are what may become of it.
func due(account uint32, cash, v int64) api.Due {
	return api.Due{Account: account, Cash: cash, V: v}
}

func has(account uint32, cash int64) api.Settled {
	return api.Settled{Account: account, Cash: cash}
}

func cut(account uint32, cash, n int64) api.Settled {
	return api.Settled{Account: account, Cash: cash, Cut: n}
}

func defaults(account uint32) api.Settled {
	return api.Settled{Account: account, Default: true}
}

// holdSettle: that is what becomes of the dues and the fund; the dues stay as they are.
func holdSettle(t *testing.T, name string, fund int64, l []api.Due, want []api.Settled, wantFund int64) {
	t.Helper()
	before := slices.Clone(l)
	out, f, e := settle.Settle(fund, l)
	if e != api.OK || f != wantFund || !slices.Equal(out, want) {
		t.Errorf("%s: Settle answers %+v, fund %d, error %d; want %+v, fund %d", name, out, f, e, want, wantFund)
	}
	if !slices.Equal(l, before) {
		t.Errorf("%s: Settle made %+v of %+v", name, l, before)
	}
}

// holdError: that is why the dues are not settled, and nothing else is told; the dues stay as they are.
func holdError(t *testing.T, name string, fund int64, l []api.Due, want api.Errno) {
	t.Helper()
	before := slices.Clone(l)
	if out, f, e := settle.Settle(fund, l); len(out) != 0 || f != 0 || e != want {
		t.Errorf("%s: Settle answers %+v, fund %d, error %d; want error %d", name, out, f, e, want)
	}
	if !slices.Equal(l, before) {
		t.Errorf("%s: Settle made %+v of %+v", name, l, before)
	}
}

// three are the chapter's dues.
func three() []api.Due { return []api.Due{due(1, 10, -30), due(2, 0, 20), due(3, 0, 10)} }

// many are so many dues by rising numbers: those at even places have lost, those at odd ones have won.
func many(n int, cash, v int64) []api.Due {
	var l []api.Due
	for i := range n {
		v = -v
		l = append(l, due(uint32(i+1), cash, v))
	}
	return l
}

// The chapter's examples.
func TestExamples(t *testing.T) {
	holdSettle(t, "fund 5", 5, three(), []api.Settled{defaults(1), cut(2, 10, 10), cut(3, 5, 5)}, 0)
	holdSettle(t, "fund 50", 50, three(), []api.Settled{defaults(1), has(2, 20), has(3, 10)}, 30)
	holdError(t, "one who has won, alone", 0, []api.Due{due(1, 0, 1)}, api.ErrSum)
}

// P13.1: of nobody nothing is told but the fund.
func TestSettleNobody(t *testing.T) {
	for _, fund := range []int64{0, 1, 77, mostFunds} {
		holdSettle(t, "nil", fund, nil, nil, fund)
		holdSettle(t, "none", fund, []api.Due{}, nil, fund)
	}
}

// P13.1: where nobody has lost or won all stays as it is, whoever has no cash.
func TestSettleNothing(t *testing.T) {
	holdSettle(t, "one", 7, []api.Due{due(1, 5, 0)}, []api.Settled{has(1, 5)}, 7)
	holdSettle(t, "one without cash", 7, []api.Due{due(1, 0, 0)}, []api.Settled{has(1, 0)}, 7)
	holdSettle(t, "without a fund", 0, []api.Due{due(3, 0, 0), due(8, 9, 0)}, []api.Settled{has(3, 0), has(8, 9)}, 0)
}

// P13.1: who can pay has paid, and who has won has it all.
func TestSettlePaid(t *testing.T) {
	for _, x := range []struct {
		name string
		l    []api.Due
		want []api.Settled
	}{
		{"two", []api.Due{due(1, 1000, 30), due(2, 1000, -30)}, []api.Settled{has(1, 1030), has(2, 970)}},
		{"the other way round", []api.Due{due(1, 1000, -30), due(2, 1000, 30)}, []api.Settled{has(1, 970), has(2, 1030)}},
		{"with one who has neither", []api.Due{due(1, 50, -30), due(2, 9, 0), due(3, 0, 30)}, []api.Settled{has(1, 20), has(2, 9), has(3, 30)}},
		{"many from one", []api.Due{due(1, 5, 1), due(2, 6, 2), due(3, 60, -7), due(4, 0, 4)}, []api.Settled{has(1, 6), has(2, 8), has(3, 53), has(4, 4)}},
		{"one from many", []api.Due{due(1, 5, -1), due(2, 6, -2), due(3, 60, 7), due(4, 4, -4)}, []api.Settled{has(1, 4), has(2, 4), has(3, 67), has(4, 0)}},
		{"far apart", []api.Due{due(1, 3, -3), due(math.MaxUint32, 0, 3)}, []api.Settled{has(1, 0), has(math.MaxUint32, 3)}},
	} {
		holdSettle(t, x.name, 0, x.l, x.want, 0)
		holdSettle(t, x.name+", with a fund", 40, x.l, x.want, 40)
	}
}

// P13.1, P13.3: in default is who has lost more than the cash, not who has lost just that.
func TestSettleDefault(t *testing.T) {
	for _, x := range []struct {
		name string
		cash int64
		want api.Settled
		fund int64
	}{
		{"one more than lost", 31, has(1, 1), 100},
		{"just what is lost", 30, has(1, 0), 100},
		{"one less", 29, defaults(1), 99},
		{"next to nothing", 1, defaults(1), 71},
		{"nothing", 0, defaults(1), 70},
	} {
		holdSettle(t, x.name, 100, []api.Due{due(1, x.cash, -30), due(2, 4, 30)}, []api.Settled{x.want, has(2, 34)}, x.fund)
	}
}

// P13.1: the fund goes first, as far as it does; all deficits are one.
func TestSettleFund(t *testing.T) {
	for _, x := range []struct {
		name     string
		fund     int64
		want     []api.Settled
		wantFund int64
	}{
		{"more than enough", 26, []api.Settled{has(1, 43), defaults(3), has(4, 2), defaults(7), has(9, 5)}, 1},
		{"just enough", 25, []api.Settled{has(1, 43), defaults(3), has(4, 2), defaults(7), has(9, 5)}, 0},
		{"one less", 24, []api.Settled{cut(1, 42, 1), defaults(3), has(4, 2), defaults(7), has(9, 5)}, 0},
		{"enough for one of both", 20, []api.Settled{cut(1, 38, 5), defaults(3), has(4, 2), defaults(7), has(9, 5)}, 0},
		{"one", 1, []api.Settled{cut(1, 19, 24), defaults(3), has(4, 2), defaults(7), has(9, 5)}, 0},
		{"none", 0, []api.Settled{cut(1, 18, 25), defaults(3), has(4, 2), defaults(7), has(9, 5)}, 0},
	} {
		l := []api.Due{due(1, 3, 40), due(3, 0, -20), due(4, 2, 0), due(7, 10, -15), due(9, 10, -5)}
		holdSettle(t, x.name, x.fund, l, x.want, x.wantFund)
	}
}

// P13.1: what is left is split by what was won, what is left over of that to the greatest rests, the one ahead first; whatever cash they have.
func TestSettleCuts(t *testing.T) {
	for _, x := range []struct {
		name string
		l    []api.Due
		want []api.Settled
	}{
		{"even", []api.Due{due(1, 50, -60), due(2, 0, 20), due(3, 90, 40)},
			[]api.Settled{defaults(1), cut(2, 17, 3), cut(3, 123, 7)}},
		{"one, three alike", []api.Due{due(1, 5, -6), due(2, 0, 2), due(3, 0, 2), due(4, 0, 2)},
			[]api.Settled{defaults(1), cut(2, 1, 1), has(3, 2), has(4, 2)}},
		{"two, three alike", []api.Due{due(1, 0, 2), due(2, 0, 2), due(3, 0, 2), due(4, 4, -6)},
			[]api.Settled{cut(1, 1, 1), cut(2, 1, 1), has(3, 2), defaults(4)}},
		{"ten, three alike, far from each other", []api.Due{due(1, 0, 5), due(2, 7, 0), due(3, 5, -15), due(4, 0, 5), due(5, 1, -1), due(6, 0, 6)},
			[]api.Settled{cut(1, 2, 3), has(2, 7), defaults(3), cut(4, 2, 3), has(5, 0), cut(6, 2, 4)}},
		{"the greatest rest behind", []api.Due{due(1, 5, -6), due(2, 1000, 1), due(3, 0, 2), due(4, 0, 3)},
			[]api.Settled{defaults(1), has(2, 1001), has(3, 2), cut(4, 2, 1)}},
		{"the greatest rest between", []api.Due{due(1, 5, -6), due(2, 1000, 1), due(3, 0, 3), due(4, 0, 2)},
			[]api.Settled{defaults(1), has(2, 1001), cut(3, 2, 1), has(4, 2)}},
		{"all that was won", []api.Due{due(1, 0, -3), due(2, 5, 1), due(3, 0, 2)},
			[]api.Settled{defaults(1), cut(2, 5, 1), cut(3, 0, 2)}},
		{"all but one of what was won", []api.Due{due(1, 1, -3), due(2, 5, 1), due(3, 0, 2)},
			[]api.Settled{defaults(1), cut(2, 5, 1), cut(3, 1, 1)}},
		{"those who can pay are not cut", []api.Due{due(1, 0, -3), due(2, 500, -1), due(3, 0, 4), due(4, 800, 0)},
			[]api.Settled{defaults(1), has(2, 499), cut(3, 1, 3), has(4, 800)}},
	} {
		holdSettle(t, x.name, 0, x.l, x.want, 0)
	}
}

// P13.1: 64 dues may be, one more may not, whatever else is so.
func TestSettleLong(t *testing.T) {
	var want []api.Settled
	for i := range uint32(mostAccounts / 2) {
		want = append(want, has(2*i+1, 5), has(2*i+2, 9))
	}
	holdSettle(t, "64", 3, many(mostAccounts, 7, 2), want, 3)
	long := many(mostAccounts+1, 7, 0)
	for name, change := range map[string]func(fund *int64, l []api.Due){
		"65":           func(*int64, []api.Due) {},
		"fund -1":      func(fund *int64, _ []api.Due) { *fund = -1 },
		"account 0":    func(_ *int64, l []api.Due) { l[0].Account = 0 },
		"falling":      func(_ *int64, l []api.Due) { l[64].Account = 1 },
		"cash -1":      func(_ *int64, l []api.Due) { l[3].Cash = -1 },
		"V the least":  func(_ *int64, l []api.Due) { l[3].V = least },
		"V not even":   func(_ *int64, l []api.Due) { l[3].V = 1 },
		"all of these": func(fund *int64, l []api.Due) { *fund, l[0] = least, due(0, -1, greatest) },
		"zeros":        func(_ *int64, l []api.Due) { clear(l) },
	} {
		fund, l := int64(0), slices.Clone(long)
		change(&fund, l)
		holdError(t, name, fund, l, api.ErrLong)
	}
	holdError(t, "many more", 0, many(5000, 0, 0), api.ErrLong)
}

// P13.1: the fund is from 0 to MaxFunds; with one that may not be even nothing is settled.
func TestSettleFundBounds(t *testing.T) {
	for _, fund := range []int64{-1, mostFunds + 1, mostMoney, least, least + 1, greatest} {
		holdError(t, "the fund alone", fund, nil, api.ErrArg)
		holdError(t, "the fund", fund, three(), api.ErrArg)
		holdError(t, "the fund, and V that are not even", fund, three()[1:], api.ErrArg)
	}
	holdSettle(t, "the greatest fund", mostFunds, three(), []api.Settled{defaults(1), has(2, 20), has(3, 10)}, mostFunds-20)
}

// P13.1: what may not be of a due is told at each place, whether the V are even or not.
func TestSettleDueBounds(t *testing.T) {
	for name, change := range map[string]func(d *api.Due){
		"account 0":       func(d *api.Due) { d.Account = 0 },
		"cash -1":         func(d *api.Due) { d.Cash = -1 },
		"cash too great":  func(d *api.Due) { d.Cash = mostFunds + 1 },
		"cash as a V":     func(d *api.Due) { d.Cash = mostMoney },
		"cash least":      func(d *api.Due) { d.Cash = least },
		"cash greatest":   func(d *api.Due) { d.Cash = greatest },
		"V too great":     func(d *api.Due) { d.V = mostMoney + 1 },
		"V too low":       func(d *api.Due) { d.V = -mostMoney - 1 },
		"V least":         func(d *api.Due) { d.V = least },
		"V next to least": func(d *api.Due) { d.V = least + 1 },
		"V greatest":      func(d *api.Due) { d.V = greatest },
		"zero":            func(d *api.Due) { *d = api.Due{} },
	} {
		for at := range 3 {
			l := three()
			change(&l[at])
			holdError(t, name, 5, l, api.ErrArg)
			l[(at+1)%3].V = -l[at].V - l[(at+2)%3].V
			holdError(t, name+", even", 5, l, api.ErrArg)
			l = three()
			l[(at+1)%3].V++
			change(&l[at])
			holdError(t, name+", not even", 5, l, api.ErrArg)
			holdError(t, name+", no fund", -1, l, api.ErrArg)
		}
	}
}

// P13.1: a V beyond its bound is told also where all together are 0, or wrap to it.
func TestSettleBeyondMoney(t *testing.T) {
	for _, n := range []int64{mostMoney + 1, 2 * mostMoney, 1 << 62, greatest} {
		holdError(t, "even", 0, []api.Due{due(1, 0, n), due(2, 0, -n)}, api.ErrArg)
		holdError(t, "even, lost first", 0, []api.Due{due(1, 0, -n), due(2, 0, n)}, api.ErrArg)
	}
	holdError(t, "twice the least", 0, []api.Due{due(1, 0, least), due(2, 0, least)}, api.ErrArg)
	holdError(t, "four quarters", 0, []api.Due{due(1, 0, 1<<62), due(2, 0, 1<<62), due(3, 0, 1<<62), due(4, 0, 1<<62)}, api.ErrArg)
}

// P13.1: the accounts rise; two alike, or one that falls behind, may not be.
func TestSettleAccountsRise(t *testing.T) {
	for _, numbers := range [][3]uint32{
		{1, 1, 2}, {1, 2, 2}, {2, 1, 3}, {1, 3, 2}, {3, 2, 1}, {2, 3, 1}, {5, 5, 5},
		{0, 1, 2}, {1, 0, 2}, {1, 2, 0}, {0, 0, 0}, {math.MaxUint32, 0, 1}, {math.MaxUint32, math.MaxUint32, math.MaxUint32},
	} {
		l := three()
		for i, n := range numbers {
			l[i].Account = n
		}
		holdError(t, "numbers", 5, l, api.ErrArg)
		l[2].V = -5
		holdError(t, "numbers, not even", 5, l, api.ErrArg)
	}
	holdError(t, "the fund alone", 5, []api.Due{due(0, 10, 0)}, api.ErrArg)
	for _, numbers := range [][3]uint32{{1, 2, 3}, {1, 5, 1000}, {7, 1 << 31, math.MaxUint32}} {
		l, want := three(), []api.Settled{defaults(1), cut(2, 10, 10), cut(3, 5, 5)}
		for i, n := range numbers {
			l[i].Account, want[i].Account = n, n
		}
		holdSettle(t, "numbers that rise", 5, l, want, 0)
	}
}

// P13.1: variations that are not 0 together, whatever the fund and the cash are.
func TestSettleSum(t *testing.T) {
	for _, fund := range []int64{0, 5, mostFunds} {
		for name, l := range map[string][]api.Due{
			"one lost":         {due(1, 10, -1)},
			"one lost too far": {due(1, 10, -11)},
			"one more won":     {due(1, 10, -30), due(2, 0, 31)},
			"one more lost":    {due(1, 100, -30), due(2, 0, 29)},
			"both won":         {due(1, 0, 3), due(2, 0, 3)},
			"both lost":        {due(1, 3, -3), due(2, 3, -3)},
			"the greatest":     {due(1, mostFunds, mostMoney), due(2, 0, mostMoney)},
			"the least":        {due(1, mostFunds, -mostMoney), due(2, 0, -mostMoney)},
			"nearly even":      {due(1, mostFunds, -mostMoney), due(2, 0, mostMoney-1)},
			"cash is no V":     {due(1, 3, -3), due(2, 3, 0)},
		} {
			holdError(t, name, fund, l, api.ErrSum)
		}
	}
	all := many(mostAccounts, mostFunds, mostMoney)
	for i := range all {
		all[i].V = mostMoney
	}
	holdError(t, "all won the most", mostFunds, all, api.ErrSum)
	for i := range all {
		all[i].V = -mostMoney
	}
	holdError(t, "all lost the most", mostFunds, all, api.ErrSum)
}

// P13.1: the greatest numbers that may be wrap nowhere.
func TestSettleGreatest(t *testing.T) {
	var cutAll, cutMost []api.Settled
	for i := range uint32(mostAccounts / 2) {
		cutAll = append(cutAll, defaults(2*i+1), cut(2*i+2, 0, mostMoney))
		less := int64(1_000_000_000_000_000 / 32)
		cutMost = append(cutMost, defaults(2*i+1), cut(2*i+2, 2*mostFunds+less, mostMoney-mostFunds-less))
	}
	holdSettle(t, "nobody has anything", 0, many(mostAccounts, 0, mostMoney), cutAll, 0)
	holdSettle(t, "all have the most", mostFunds, many(mostAccounts, mostFunds, mostMoney), cutMost, 0)

	l := []api.Due{due(1, mostFunds, -mostMoney), due(2, mostFunds, mostMoney)}
	holdSettle(t, "two", 0, l, []api.Settled{defaults(1), cut(2, 2*mostFunds, mostMoney-mostFunds)}, 0)
	l = []api.Due{due(1, mostFunds, -mostFunds), due(2, mostFunds, mostFunds)}
	holdSettle(t, "two, paid", 0, l, []api.Settled{has(1, 0), has(2, 2*mostFunds)}, 0)
	l = []api.Due{due(1, 0, -mostFunds), due(2, mostFunds, mostFunds)}
	holdSettle(t, "two, from the fund", mostFunds, l, []api.Settled{defaults(1), has(2, 2*mostFunds)}, 0)
}

// R2, R4: what is answered is nobody else's, and nothing is kept.
func TestSettleKeepsNothing(t *testing.T) {
	l := three()
	first, _, _ := settle.Settle(5, l)
	for i := range first {
		first[i] = api.Settled{Account: 99, Cash: -8, Default: true, Cut: -8}
	}
	if !slices.Equal(l, three()) {
		t.Error("an answer shares its list with what was handed in:", l)
	}
	settle.Settle(-1, l)
	settle.Settle(7, l[1:])
	settle.Settle(mostFunds, many(mostAccounts, 0, mostMoney))
	holdSettle(t, "again", 5, l, []api.Settled{defaults(1), cut(2, 10, 10), cut(3, 5, 5)}, 0)

	// What is handed in is longer than it tells.
	l = append(three(), due(9, 9, 9))
	holdSettle(t, "a part of a list", 5, l[:3], []api.Settled{defaults(1), cut(2, 10, 10), cut(3, 5, 5)}, 0)
	if l[3] != due(9, 9, 9) {
		t.Error("Settle wrote behind what it was handed:", l)
	}
}
