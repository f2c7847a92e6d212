package ledger_test

import (
	"iter"
	"slices"
	"testing"

	"broadside/api"
	"broadside/ledger"
)

// P9.5: a position that is none has noughts, and says of whom and in what it is.
func TestPosition(t *testing.T) {
	l := traded(t)
	for _, x := range []struct{ contract, account uint32 }{{5, 3}, {6, 1}, {1, 5}, {0, 0}, {0, 1}, {5, 0}, {last, last}} {
		if got := l.Position(x.contract, x.account); got != pos(x.contract, x.account, 0, 0) {
			t.Errorf("Position(%d, %d): %v", x.contract, x.account, got)
		}
	}
	holdAll(t, "asked", l, 0, []api.Account{cash(1, 100), cash(2, 100)}, pos(5, 1, 3, 30), pos(5, 2, -3, -30))
}

// many is a ledger in which things came out of their order.
func many(t *testing.T) (*ledger.Ledger, []api.Account, []api.Position) {
	t.Helper()
	l := ledger.New()
	for _, n := range []uint32{7, 2, last, 4, 1 << 31, 1} {
		hold(t, "Deposit", l.Deposit(n, int64(n)), api.OK)
	}
	for _, c := range []uint32{last, 3, 1, 1 << 31} {
		hold(t, "Trade", l.Trade(c, 7, 2, 10, 1), api.OK)
		hold(t, "Trade", l.Trade(c, 1<<31, last, 10, 2), api.OK)
	}
	var accounts []api.Account
	for _, n := range []uint32{1, 2, 4, 7, 1 << 31, last} {
		accounts = append(accounts, cash(n, int64(n)))
	}
	var positions []api.Position
	for _, c := range []uint32{1, 3, 1 << 31, last} {
		positions = append(positions, pos(c, 2, -1, -10), pos(c, 7, 1, 10), pos(c, 1<<31, 2, 20), pos(c, last, -2, -20))
	}
	return l, accounts, positions
}

// P9.5: all are told by rising numbers, again and again the same, none of them the fund's.
func TestToldInOrder(t *testing.T) {
	l, accounts, positions := many(t)
	hold(t, "Deposit of the fund", l.Deposit(0, 5), api.OK)
	for range 20 {
		holdAll(t, "many", l, 5, accounts, positions...)
	}
	for _, n := range []uint32{0, 1, 3, 4, 5, last - 1} {
		if got := slices.Collect(l.Held(n)); len(got) != 0 {
			t.Errorf("%d holds %v", n, got)
		}
	}
	for _, c := range []uint32{0, 2, 4, 7, last - 1} {
		if got := slices.Collect(l.Holders(c)); len(got) != 0 {
			t.Errorf("%d has the holders %v", c, got)
		}
	}
}

// holdBroken: whoever breaks off behind any number of them is told no more.
func holdBroken[T comparable](t *testing.T, name string, all iter.Seq[T]) {
	t.Helper()
	want := slices.Collect(all)
	if len(want) == 0 {
		t.Errorf("%s: none", name)
	}
	for n := 1; n <= len(want); n++ {
		var got []T
		all(func(x T) bool {
			got = append(got, x)
			return len(got) < n
		})
		if !slices.Equal(got, want[:n]) {
			t.Errorf("%s, broken off behind %d: %v, want %v", name, n, got, want[:n])
		}
	}
	if got := slices.Collect(all); !slices.Equal(got, want) {
		t.Errorf("%s, then: %v, want %v", name, got, want)
	}
}

// P9.5: whoever breaks off is told no more.
func TestBrokenOff(t *testing.T) {
	l, accounts, positions := many(t)
	holdBroken(t, "Accounts", l.Accounts())
	for _, n := range []uint32{2, 7, last} {
		holdBroken(t, "Held", l.Held(n))
	}
	for _, c := range []uint32{1, 1 << 31, last} {
		holdBroken(t, "Holders", l.Holders(c))
	}
	holdAll(t, "broken off", l, 0, accounts, positions...)
}

// P9.5: accounts are told as they are when they are told, not as they were when they were asked for.
func TestAccountsInBetween(t *testing.T) {
	l := rich(t, 10, 20, 30)
	all := l.Accounts()
	hold(t, "Withdraw", l.Withdraw(1, 4), api.OK)
	var got []api.Account
	for a := range all {
		got = append(got, a)
		hold(t, "Deposit of those told and those to be told", l.Deposit(1, 1), api.OK)
		hold(t, "Deposit", l.Deposit(3, 1), api.OK)
		hold(t, "Set", l.Set(flagged(2, 5, true, false)), api.OK)
	}
	if want := []api.Account{cash(1, 6), flagged(2, 5, true, false), cash(3, 32)}; !slices.Equal(got, want) {
		t.Errorf("told are %v, want %v", got, want)
	}
	if got := slices.Collect(all); !slices.Equal(got, []api.Account{cash(1, 9), flagged(2, 5, true, false), cash(3, 33)}) {
		t.Errorf("told again are %v", got)
	}
}

// P9.5: an account that comes behind those that were told is told.
func TestAccountsThatCome(t *testing.T) {
	l := rich(t, 10, 20)
	var got []uint32
	for a := range l.Accounts() {
		got = append(got, a.Number)
		if a.Number == 2 {
			hold(t, "Deposit", l.Deposit(9, 1), api.OK)
			hold(t, "Deposit", l.Deposit(5, 1), api.OK)
		}
	}
	if !slices.Equal(got, []uint32{1, 2, 5, 9}) {
		t.Errorf("told are %v", got)
	}
}

// P9.5: holders are told as they are when they are told; who holds nothing any more is not.
func TestHoldersInBetween(t *testing.T) {
	l := rich(t, 1, 1, 1, 1, 1)
	hold(t, "Trade", l.Trade(5, 1, 3, 10, 2), api.OK)
	hold(t, "Trade", l.Trade(5, 2, 4, 10, 2), api.OK)
	all := l.Holders(5)
	var got []api.Position
	for p := range all {
		got = append(got, p)
		if p.Account == 1 {
			hold(t, "Trade", l.Trade(5, 4, 2, 10, 2), api.OK)
			hold(t, "Trade", l.Trade(5, 5, 1, 11, 7), api.OK)
			hold(t, "Trade of another contract", l.Trade(6, 2, 4, 10, 2), api.OK)
		}
		if p.Account == 3 {
			holdMark(t, "Mark", l, 5, 10, false, won(1, 7), won(3, 0), won(5, -7))
		}
	}
	if want := []api.Position{pos(5, 1, 2, 20), pos(5, 3, -2, -20), pos(5, 5, 7, 70)}; !slices.Equal(got, want) {
		t.Errorf("told are %v, want %v", got, want)
	}
	got = nil
	for p := range all {
		got = append(got, p)
		_, e := l.Mark(5, 10, true)
		hold(t, "Mark and close", e, api.OK)
	}
	if !slices.Equal(got, []api.Position{pos(5, 1, -5, -50)}) {
		t.Errorf("told while it is closed are %v", got)
	}
}

// P9.5: so are the contracts that an account holds.
func TestHeldInBetween(t *testing.T) {
	l := rich(t, 1, 1)
	for _, c := range []uint32{5, 6, 7, 8} {
		hold(t, "Trade", l.Trade(c, 1, 2, 10, 2), api.OK)
	}
	all := l.Held(1)
	hold(t, "Trade", l.Trade(5, 1, 2, 20, 1), api.OK)
	var got []api.Position
	for p := range all {
		got = append(got, p)
		if p.Contract == 5 {
			hold(t, "Trade of what is told", l.Trade(5, 1, 2, 10, 1), api.OK)
			holdMark(t, "Mark and close", l, 6, 10, true, won(1, 0), won(2, 0))
			hold(t, "Trade", l.Trade(8, 2, 1, 9, 5), api.OK)
			hold(t, "Trade of one ahead", l.Trade(1, 2, 1, 9, 5), api.OK)
		}
	}
	if want := []api.Position{pos(5, 1, 3, 40), pos(7, 1, 2, 20), pos(8, 1, -3, -25)}; !slices.Equal(got, want) {
		t.Errorf("told are %v, want %v", got, want)
	}
}

// P9.5: told within what is told.
func TestToldWithin(t *testing.T) {
	l, accounts, positions := many(t)
	var got []api.Position
	for a := range l.Accounts() {
		for p := range l.Held(a.Number) {
			for x := range l.Holders(p.Contract) {
				if x.Account == a.Number {
					got = append(got, x)
				}
			}
		}
	}
	byAccount := func(a, b api.Position) int {
		return slices.Compare([]uint32{a.Account, a.Contract}, []uint32{b.Account, b.Contract})
	}
	if want := slices.SortedFunc(slices.Values(positions), byAccount); !slices.Equal(got, want) {
		t.Errorf("told are %v, want %v", got, want)
	}
	holdAll(t, "told within", l, 0, accounts, positions...)
}

// R2: what is told may be written over.
func TestToldIsNew(t *testing.T) {
	l, accounts, positions := many(t)
	for a := range l.Accounts() {
		a.Cash, a.Killed = 1, true
		clear(slices.Collect(l.Held(a.Number)))
	}
	for p := range l.Holders(3) {
		p.Q, p.Basis = 7, 7
	}
	holdAll(t, "written over", l, 0, accounts, positions...)
}

// P9.5: a copy is the same, and each of both goes its own way.
func TestCopy(t *testing.T) {
	accounts := []api.Account{cash(1, 100), flagged(2, 100, true, true)}
	held := []api.Position{pos(5, 1, 3, 30), pos(5, 2, -3, -30)}
	first := from(t, 9, accounts, held...)
	second := first.Copy()
	holdAll(t, "the copy", second, 9, accounts, held...)
	change := func(l *ledger.Ledger) {
		hold(t, "Deposit of the fund", l.Deposit(0, 1), api.OK)
		hold(t, "Deposit", l.Deposit(3, 5), api.OK)
		hold(t, "Withdraw", l.Withdraw(1, 40), api.OK)
		hold(t, "Set", l.Set(cash(2, 8)), api.OK)
		hold(t, "Trade", l.Trade(6, 3, 1, 10, 1), api.OK)
		holdMark(t, "Mark and close", l, 5, 11, true, won(1, 3), won(2, -3))
	}
	changed := []api.Account{cash(1, 60), cash(2, 8), cash(3, 5)}
	now := []api.Position{pos(6, 1, -1, -10), pos(6, 3, 1, 10)}
	change(second)
	holdAll(t, "the first, when the copy has changed", first, 9, accounts, held...)
	holdAll(t, "the copy, changed", second, 10, changed, now...)
	third := first.Copy()
	change(first)
	holdAll(t, "the first, changed", first, 10, changed, now...)
	holdAll(t, "a copy of when it had not changed", third, 9, accounts, held...)
	hold(t, "Trade", first.Trade(5, 3, 1, 1, 1), api.OK)
	holdAll(t, "the copy, when the first goes on", second, 10, changed, now...)
	empty := ledger.New().Copy()
	holdAll(t, "a copy of a new one", empty, 0, nil)
	hold(t, "Deposit into it", empty.Deposit(1, 1), api.OK)
}

// R1: ledgers that are not there, and zero ones, which stay such whatever is asked of them.
func TestNoLedger(t *testing.T) {
	for _, l := range []*ledger.Ledger{nil, {}} {
		for range 2 {
			for _, n := range []uint32{0, 1, last} {
				for _, amount := range []int64{1, 0, least, greatest} {
					hold(t, "Deposit", l.Deposit(n, amount), api.ErrNil)
					hold(t, "Withdraw", l.Withdraw(n, amount), api.ErrNil)
					hold(t, "Set", l.Set(cash(n, amount)), api.ErrNil)
					hold(t, "Trade", l.Trade(n, 1, 2, 10, amount), api.ErrNil)
					if got, e := l.Mark(n, amount, amount == 1); len(got) != 0 || e != api.ErrNil {
						t.Errorf("Mark: %v, error %d", got, e)
					}
				}
				if got, e := l.Get(n); got != (api.Account{}) || e != api.ErrNil {
					t.Errorf("Get: %v, error %d", got, e)
				}
				if got := l.Position(n, 7); got != pos(n, 7, 0, 0) {
					t.Errorf("Position: %v", got)
				}
				for range l.Holders(n) {
					t.Error("Holders tells one")
				}
				for range l.Held(n) {
					t.Error("Held tells one")
				}
			}
			for range l.Accounts() {
				t.Error("Accounts tells one")
			}
			if l.Funds() != 0 || l.Copy() != nil {
				t.Error("Funds, or Copy")
			}
		}
	}
}
