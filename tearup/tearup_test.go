package tearup_test

import (
	"math"
	"slices"
	"testing"

	"broadside/api"
	"broadside/tearup"
)

const (
	least        = math.MinInt64
	greatest     = math.MaxInt64
	mostAccounts = 64
	mostPosition = int64(10_000_000)
)

// holder is one of an account.
func holder(account uint32, q int64) api.Holder { return api.Holder{Account: account, Q: q} }

// turned are holders on the other side.
func turned(l []api.Holder) []api.Holder {
	out := slices.Clone(l)
	for i := range out {
		out[i].Q = -out[i].Q
	}
	return out
}

// holdParts: that is what is given up, and the same if all stand the other way round; the holders stay as they are.
func holdParts(t *testing.T, name string, q int64, l, want []api.Holder) {
	t.Helper()
	holdPartsOnce(t, name, q, l, want)
	holdPartsOnce(t, name+", turned", -q, turned(l), want)
}

func holdPartsOnce(t *testing.T, name string, q int64, l, want []api.Holder) {
	t.Helper()
	before := slices.Clone(l)
	if out, e := tearup.Parts(q, l); e != api.OK || !slices.Equal(out, want) {
		t.Errorf("%s: Parts(%d, %v) answers %v, error %d; want %v", name, q, before, out, e, want)
	}
	if !slices.Equal(l, before) {
		t.Errorf("%s: Parts made %v of %v", name, l, before)
	}
}

// holdError: that is why nothing is given up, and nothing else is told, and so if all stand the other way round; the holders stay as they are.
func holdError(t *testing.T, name string, q int64, l []api.Holder, want api.Errno) {
	t.Helper()
	holdErrorOnce(t, name, q, l, want)
	holdErrorOnce(t, name+", turned", -q, turned(l), want)
}

func holdErrorOnce(t *testing.T, name string, q int64, l []api.Holder, want api.Errno) {
	t.Helper()
	before := slices.Clone(l)
	if out, e := tearup.Parts(q, l); len(out) != 0 || e != want {
		t.Errorf("%s: Parts(%d, %v) answers %v, error %d; want error %d", name, q, before, out, e, want)
	}
	if !slices.Equal(l, before) {
		t.Errorf("%s: Parts made %v of %v", name, l, before)
	}
}

// three are the chapter's holders.
func three() []api.Holder { return []api.Holder{holder(1, -10), holder(2, -20), holder(3, 5)} }

// many are so many holders of q each, by rising numbers.
func many(n int, q int64) []api.Holder {
	var l []api.Holder
	for i := range n {
		l = append(l, holder(uint32(i+1), q))
	}
	return l
}

// row are holders of these quantities, by rising numbers from 1 on.
func row(quantities ...int64) []api.Holder {
	var l []api.Holder
	for i, q := range quantities {
		l = append(l, holder(uint32(i+1), q))
	}
	return l
}

// The chapter's examples.
func TestExamples(t *testing.T) {
	holdPartsOnce(t, "10", 10, three(), []api.Holder{holder(1, 3), holder(2, 7)})
	holdPartsOnce(t, "-4", -4, row(2, 2), []api.Holder{holder(1, 2), holder(2, 2)})
	holdErrorOnce(t, "10 of 9", 10, row(-9), api.ErrNone)
}

// P14.1: one who stands opposite alone gives up the whole.
func TestPartsOfOne(t *testing.T) {
	for _, q := range []int64{1, 2, 7, 99, 100} {
		holdParts(t, "alone", q, row(-100), row(q))
		holdParts(t, "beside others", q, []api.Holder{holder(3, 50), holder(4, 0), holder(8, -100), holder(9, 1)}, []api.Holder{holder(8, q)})
		holdParts(t, "the last of the numbers", q, []api.Holder{holder(math.MaxUint32, -100)}, []api.Holder{holder(math.MaxUint32, q)})
	}
}

// P14.1: a total is split by what is held, what is left over to the greatest rests, the one ahead first; who gives up nothing is not told.
func TestPartsAreSplit(t *testing.T) {
	for _, x := range []struct {
		name string
		q    int64
		l    []api.Holder
		want []api.Holder
	}{
		{"even", 6, row(-2, -4, -6), row(1, 2, 3)},
		{"one, three alike", 1, row(-2, -2, -2), row(1)},
		{"two, three alike", 2, row(-2, -2, -2), row(1, 1)},
		{"four, three alike", 4, row(-2, -2, -2), row(2, 1, 1)},
		{"the greatest rest behind", 1, row(-1, -2, -3), []api.Holder{holder(3, 1)}},
		{"the greatest rest between", 1, row(-1, -3, -2), []api.Holder{holder(2, 1)}},
		{"the greatest rest is not the greatest holder's", 51, row(-1, -100), row(1, 50)},
		{"the smaller one gives nothing", 50, row(-1, -100), []api.Holder{holder(2, 50)}},
		{"the greater one ahead", 10, row(-6, -5, -5), row(4, 3, 3)},
		{"the greater one behind", 10, row(-5, -5, -6), row(3, 3, 4)},
		{"all but one", 5, row(-1, -2, -3), row(1, 2, 2)},
		{"all", 6, row(-1, -2, -3), row(1, 2, 3)},
	} {
		holdParts(t, x.name, x.q, x.l, x.want)
	}
}

// P14.1: who stands on the same side, or holds nothing, changes nothing, wherever it stands and however much it holds.
func TestPartsOfOthers(t *testing.T) {
	for _, n := range []int64{0, 1, 4, 1000, mostPosition} {
		holdParts(t, "ahead", 4, row(n, -2, -2, -2), []api.Holder{holder(2, 2), holder(3, 1), holder(4, 1)})
		holdParts(t, "between", 4, row(-2, n, -2, n, -2), []api.Holder{holder(1, 2), holder(3, 1), holder(5, 1)})
		holdParts(t, "behind", 4, row(-2, -2, -2, n), []api.Holder{holder(1, 2), holder(2, 1), holder(3, 1)})
	}
}

// P14.1: where those who stand opposite have too little together there is nothing to be told, whatever others hold.
func TestPartsNone(t *testing.T) {
	for _, q := range []int64{1, 2, 1000, mostPosition} {
		holdError(t, "nil", q, nil, api.ErrNone)
		holdError(t, "nobody", q, []api.Holder{}, api.ErrNone)
		holdError(t, "one who holds nothing", q, row(0), api.ErrNone)
		holdError(t, "the same side", q, row(q, 1, mostPosition), api.ErrNone)
		holdError(t, "one less, alone", q, row(1-q), api.ErrNone)
		holdError(t, "one less, among others", q, row(mostPosition, 1-q, 0, q), api.ErrNone)
		holdParts(t, "just enough", q, row(-q), row(q))
	}
	holdError(t, "one less together", 30, row(-10, -19), api.ErrNone)
	holdParts(t, "just enough together", 30, row(-10, -20), row(10, 20))
	holdError(t, "both sides together would do", 30, row(-10, 5, -10, 15), api.ErrNone)
	holdParts(t, "the other side takes nothing away", 30, row(-10, 5, -20, 1000), []api.Holder{holder(1, 10), holder(3, 20)})
}

// P14.1: 64 holders may be, one more may not, whatever else is so.
func TestPartsLong(t *testing.T) {
	holdParts(t, "64", mostAccounts, many(mostAccounts, -2), many(mostAccounts, 1))
	holdError(t, "64, too little", mostAccounts+1, many(mostAccounts, -1), api.ErrNone)
	for name, change := range map[string]func(q *int64, l []api.Holder){
		"65":           func(*int64, []api.Holder) {},
		"q 0":          func(q *int64, _ []api.Holder) { *q = 0 },
		"q too great":  func(q *int64, _ []api.Holder) { *q = mostPosition + 1 },
		"q least":      func(q *int64, _ []api.Holder) { *q = least },
		"too little":   func(q *int64, _ []api.Holder) { *q = 1000 },
		"account 0":    func(_ *int64, l []api.Holder) { l[0].Account = 0 },
		"falling":      func(_ *int64, l []api.Holder) { l[64].Account = 1 },
		"held least":   func(_ *int64, l []api.Holder) { l[3].Q = least },
		"zeros":        func(_ *int64, l []api.Holder) { clear(l) },
		"all of these": func(q *int64, l []api.Holder) { *q, l[0] = 0, holder(0, greatest) },
	} {
		q, l := int64(5), many(mostAccounts+1, -2)
		change(&q, l)
		holdError(t, name, q, l, api.ErrLong)
	}
	holdError(t, "many more", 5, many(5000, -2), api.ErrLong)
}

// P14.1: q is not 0 and within MaxPosition; one that may not be is told ahead of too little.
func TestPartsQuantityBounds(t *testing.T) {
	for _, q := range []int64{0, mostPosition + 1, 2 * mostPosition, 1 << 32, 1 << 62, greatest, least, least + 1} {
		holdError(t, "without holders", q, nil, api.ErrArg)
		holdError(t, "the chapter's", q, three(), api.ErrArg)
		holdError(t, "enough", q, many(mostAccounts, -mostPosition), api.ErrArg)
		holdError(t, "the other side alone", q, many(mostAccounts, mostPosition), api.ErrArg)
	}
	holdParts(t, "the least", 1, row(-10), row(1))
	holdParts(t, "the greatest", mostPosition, row(-mostPosition), row(mostPosition))
}

// P14.1: a holder that may not be is told at each place, whichever side it stands on, ahead of too little.
func TestPartsHolderBounds(t *testing.T) {
	for name, change := range map[string]func(h *api.Holder){
		"account 0":              func(h *api.Holder) { h.Account = 0 },
		"zero":                   func(h *api.Holder) { *h = api.Holder{} },
		"too great":              func(h *api.Holder) { h.Q = mostPosition + 1 },
		"too low":                func(h *api.Holder) { h.Q = -mostPosition - 1 },
		"too low by a word":      func(h *api.Holder) { h.Q = -1 << 32 },
		"half the greatest":      func(h *api.Holder) { h.Q = 1 << 62 },
		"greatest":               func(h *api.Holder) { h.Q = greatest },
		"least":                  func(h *api.Holder) { h.Q = least },
		"next to least":          func(h *api.Holder) { h.Q = least + 1 },
		"too low, and account 0": func(h *api.Holder) { *h = holder(0, least) },
	} {
		for at := range 3 {
			l := three()
			change(&l[at])
			holdError(t, name, 4, l, api.ErrArg)
			holdError(t, name+", too little", mostPosition, l, api.ErrArg)
			holdError(t, name+", q 0", 0, l, api.ErrArg)
			l = row(1, 1, 1)
			change(&l[at])
			holdError(t, name+", on the same side", 4, l, api.ErrArg)
		}
	}
	holdParts(t, "the most at each place", 3, row(-mostPosition, -mostPosition, -mostPosition), row(1, 1, 1))
	holdParts(t, "the most on the same side", 3, row(mostPosition, -3, mostPosition), []api.Holder{holder(2, 3)})
}

// P14.1: the accounts rise; two alike, or one that falls behind, may not be, whatever they hold.
func TestPartsAccountsRise(t *testing.T) {
	numbers := [][3]uint32{
		{1, 1, 2}, {1, 2, 2}, {2, 1, 3}, {1, 3, 2}, {3, 2, 1}, {2, 3, 1}, {5, 5, 5},
		{0, 1, 2}, {1, 0, 2}, {1, 2, 0}, {0, 0, 0}, {math.MaxUint32, 0, 1}, {math.MaxUint32, math.MaxUint32, math.MaxUint32},
	}
	for _, held := range [][3]int64{{-10, -20, 5}, {-10, -20, -30}, {0, 0, -30}, {-10, 0, 0}, {0, -10, 0}, {0, 0, 0}, {1, 2, 3}} {
		for _, accounts := range numbers {
			l := row(held[:]...)
			for i, n := range accounts {
				l[i].Account = n
			}
			holdError(t, "numbers", 10, l, api.ErrArg)
			holdError(t, "numbers, too little", mostPosition, l, api.ErrArg)
		}
	}
	for _, accounts := range [][3]uint32{{1, 2, 3}, {1, 5, 1000}, {7, 1 << 31, math.MaxUint32}} {
		l := three()
		for i, n := range accounts {
			l[i].Account = n
		}
		holdParts(t, "numbers that rise", 10, l, []api.Holder{holder(accounts[0], 3), holder(accounts[1], 7)})
	}
}

// P14.1: the greatest numbers that may be wrap nowhere.
func TestPartsGreatest(t *testing.T) {
	all := many(mostAccounts, 156_250)
	holdParts(t, "64 of the most", mostPosition, many(mostAccounts, -mostPosition), all)
	holdParts(t, "64 of just enough", mostPosition, many(mostAccounts, -156_250), all)
	holdParts(t, "one of 64 of the most", 1, many(mostAccounts, -mostPosition), row(1))

	// 63 parts of 158730 leave ten over.
	all = many(mostAccounts-1, 158_730)
	for i := range 10 {
		all[i].Q++
	}
	holdParts(t, "63 of the most, one on the same side", mostPosition, append(many(mostAccounts-1, -mostPosition), holder(99, mostPosition)), all)

	few := many(mostAccounts, -1)
	few[40].Q = -mostPosition
	all = many(mostAccounts, 1)
	all[40].Q = mostPosition - 64
	holdParts(t, "one of the most, 63 of one", mostPosition-1, few, all)
	all[40].Q++
	holdParts(t, "one of the most, 63 of one, one more", mostPosition, few, all)
}

// R2, R4: what is answered is nobody else's, and nothing is kept.
func TestPartsKeepNothing(t *testing.T) {
	want := []api.Holder{holder(1, 3), holder(2, 7)}
	l := three()
	first, _ := tearup.Parts(10, l)
	for i := range first {
		first[i] = holder(99, -8)
	}
	if !slices.Equal(l, three()) {
		t.Error("an answer shares its list with what was handed in:", l)
	}
	tearup.Parts(0, l)
	tearup.Parts(7, l[1:])
	tearup.Parts(mostPosition, many(mostAccounts, -mostPosition))
	holdParts(t, "again", 10, l, want)

	again, _ := tearup.Parts(10, l)
	clear(l)
	if !slices.Equal(again, want) {
		t.Error("what was handed in shares its list with an answer:", again)
	}

	// What is handed in is longer than it tells.
	l = append(three(), holder(9, -900))
	holdParts(t, "a part of a list", 10, l[:3], want)
	if l[3] != holder(9, -900) {
		t.Error("Parts wrote behind what it was handed:", l)
	}
}
